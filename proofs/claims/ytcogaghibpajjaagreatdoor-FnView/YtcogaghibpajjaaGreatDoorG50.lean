/- Several texts of one claim in one file: PlainFirst, PlainParts, PlainTwo, PlainSgOne. -/
import Derived.Test.YtcogaghibpajjaaGreatDoorG35
import Derived.Test.YtcogaghibpajjaaGreatDoorG02
import Derived.Test.YtcogaghibpajjaaGreatDoorG42
import Derived.Test.YtcogaghibpajjaaGreatDoorPlainSightN
namespace Go.Proofs.YtcogaghibpajjaaGreatDoor
namespace Pl
structure Alike (a b : Nd) : Prop where
 path : a.path = b.path
 kind : a.kind = b.kind
 data : a.data = b.data
 time : a.time = b.time
theorem Alike.refl (a : Nd) : Alike a a := ⟨rfl, rfl, rfl, rfl⟩
theorem Alike.trans {a b c : Nd} (h : Alike a b) (g : Alike b c) : Alike a c := ⟨h.1.trans g.1, h.2.trans g.2, h.3.trans g.3, h.4.trans g.4⟩
theorem take_told {s : Sg} {k : Nat} {n : Nd} (h : s.told = true) : Alike (zc0 s k n).node s.node := by
 unfold zc0 zi0
 rw [h]
 exact ⟨rfl, rfl, rfl, rfl⟩
theorem go_keep : ∀ (ns : List (Option Nd)) (k : Nat) (s : Sg), s.told = true → (goD k s ns).told = true ∧ Alike (goD k s ns).node s.node := by
 intro ns
 induction ns with
 | nil => intro k s h; exact ⟨h, Alike.refl _⟩
 | cons x ns ih =>
  intro k s h
  cases x with
  | none => exact ih _ _ h
  | some n =>
   rw [goD]
   split
   ·exact ⟨rfl, take_told h⟩
   ·obtain ⟨h1, h2⟩ := ih (k + 1) (zc0 s k n) rfl
    exact ⟨h1, h2.trans (take_told h)⟩
theorem go_low : ∀ (ns : List (Option Nd)) (k : Nat) (s : Sg) (i : Nat), i < k → (goD k s ns).have'[i]? = s.have'[i]? := by
 intro ns
 induction ns with
 | nil => intro k s i _; rfl
 | cons x ns ih =>
  intro k s i hi
  cases x with
  | none => exact ih _ _ _ (by omega)
  | some n =>
   have ht : (zc0 s k n).have'[i]? = s.have'[i]? := by
    unfold zc0
    simp only
    rw [List.getElem?_set_ne (by omega)]
   rw [goD]
   split
   ·exact ht
   ·rw [ih _ _ _ (by omega), ht]
theorem up_dir {s : Sg} (h : s.node.kind ≠ 0) : (upS s).told = s.told ∧ Alike (upS s).node s.node ∧ (upS s).have' = s.have' := by
 unfold upS
 rw [if_neg (fun h2 => h h2.1)]
 exact ⟨rfl, ⟨rfl, rfl, rfl, rfl⟩, rfl⟩
theorem up_gone {s : Sg} (h : s.node.kind = 0) (ht : (upS s).told = true) : (upS s).node.kind = 0 := by
 unfold upS at ht ⊢
 split at ht
 ·cases ht
 ·rename_i hz
  rw [if_neg hz]
  exact h
theorem dec_first {n : Nd} (hn : zb n = true) (r : List (Option Nd)) :
  (n.kind = 0 → (decS (some n :: r)).told = true → (decS (some n :: r)).node.kind = 0) ∧
  (n.kind = 2 → (decS (some n :: r)).told = true ∧ (decS (some n :: r)).node = n) ∧
  (n.kind = 1 → (decS (some n :: r)).told = true ∧ Alike (decS (some n :: r)).node n ∧ (decS (some n :: r)).have'[0]? = some true) := by
 have e : (zc0 Sg.zero 0 n).node = n := by
  unfold zc0 zi0 Sg.zero
  simp
 have et : (zc0 Sg.zero 0 n).told = true := rfl
 unfold decS
 refine ⟨fun hk => ?_, fun hk => ?_, fun hk => ?_⟩
 ·have hs : zg1 n = true := by simp [zg1, hk]
  rw [goD, if_pos hs]
  exact up_gone (by rw [e]; exact hk)
 ·have hs : zg1 n = true := by simp [zg1, hk]
  have hm : n.mark = 0 := by
   unfold zb at hn
   simp only [Bool.and_eq_true, decide_eq_true_eq] at hn
   have h2 := hn.2
   unfold zj4 at h2
   simpa [hk] using h2
  rw [goD, if_pos hs]
  have hu : upS (zc0 Sg.zero 0 n) = ⟨true, ⟨n.path, n.kind, n.data, n.time, max (n.mark - 1) 0⟩, (zc0 Sg.zero 0 n).have'⟩ := by
   unfold upS
   rw [if_neg (by rw [e]; omega), e]
   rfl
  rw [hu]
  refine ⟨rfl, ?_⟩
  rw [hm]
  obtain ⟨p, k, d, t, m⟩ := n
  simp only at hm
  subst hm
  rfl
 ·have hh : (zc0 Sg.zero 0 n).have'[0]? = some true := by
   unfold zc0 Sg.zero
   simp [hk]
  have key : ∀ s : Sg, s.told = true → Alike s.node n → s.have'[0]? = some true → (upS s).told = true ∧ Alike (upS s).node n ∧ (upS s).have'[0]? = some true := fun s h1 h2 h3 => by
   obtain ⟨g1, g2, g3⟩ := up_dir (s := s) (by rw [h2.kind, hk]; decide)
   exact ⟨by rw [g1]; exact h1, g2.trans h2, by rw [g3]; exact h3⟩
  rw [goD]
  split
  ·exact key _ rfl (by rw [e]; exact Alike.refl n) hh
  ·obtain ⟨h1, h2⟩ := go_keep r 1 (zc0 Sg.zero 0 n) rfl
   refine key _ h1 (by rw [e] at h2; exact h2) ?_
   rw [go_low r 1 _ 0 (by omega)]
   exact hh
theorem lk_in {L : List Nd} (h : za2 L = true) {n : Nd} (hn : n ∈ L) : lk L n.path = some n := by
 obtain ⟨-, -, hr⟩ := (zl L).1 h
 unfold lk
 cases hf : L.find? (fun m => decide (m.path = n.path)) with
 | none =>
  rw [List.find?_eq_none] at hf
  exact absurd (decide_eq_true rfl) (hf _ hn)
 | some m =>
  have h1 := List.mem_of_find?_eq_some hf
  have h2 : m.path = n.path := by simpa using List.find?_some hf
  by_cases e : m = n
  ·rw [e]
  ·exfalso
   obtain ⟨i, hi⟩ := List.getElem?_of_mem h1
   obtain ⟨j, hj⟩ := List.getElem?_of_mem hn
   have hi2 := List.getElem?_eq_some_iff.1 hi
   have hj2 := List.getElem?_eq_some_iff.1 hj
   rw [List.pairwise_iff_getElem] at hr
   rcases Nat.lt_trichotomy i j with hlt | heq | hlt
   ·have := hr i j hi2.1 hj2.1 hlt
    rw [hi2.2, hj2.2, h2, zg3] at this
    cases this
   ·subst heq
    rw [hi] at hj
    exact e (Option.some.inj hj)
   ·have := hr j i hj2.1 hi2.1 hlt
    rw [hi2.2, hj2.2, h2, zg3] at this
    cases this
theorem root_part (L : List Nd) (Ls : List (List Nd)) (h4 : (L :: Ls).length ≤ 4) {q : ByteArray} (h : q.size = 0) : (zb1 (L :: Ls) q).have'[0]? = some true := by
 have e : q = ⟨#[]⟩ := by
  cases q with
  | mk a => have : a = #[] := Array.size_eq_zero_iff.1 h; rw [this]
 subst e
 rw [(zq0 h4).parts]
 simp [zb3]
theorem first_part {L : List Nd} {Ls : List (List Nd)} (h4 : (L :: Ls).length ≤ 4) (hL : za2 L = true) : ∀ (N : Nat) (q : ByteArray), (names q).length = N → za3 q = true → (q.size = 0 ∨ ∃ m ∈ L, m.path = q ∧ m.kind = 1) → (zb1 (L :: Ls) q).have'[0]? = some true := by
 intro N
 induction N with
 | zero =>
  intro q hN hq _
  refine root_part L Ls h4 ?_
  by_cases h : q.size = 0
  ·exact h
  ·have := names_pos h; omega
 | succ N ih =>
  intro q hN hq hd
  rcases hd with h0 | ⟨m, hm, he, hk⟩
  ·exact root_part L Ls h4 h0
  ·subst he
   have hz := (zl8 hL hm).2
   obtain ⟨-, hnd, hr⟩ := (zl L).1 hL
   have hn := zq7 hq hz rfl
   have hpq := zx9 hq
   have hpart := ih (parent m.path) (by rw [hn, List.length_append, List.length_singleton] at hN; omega) hpq ((zx2 hr _).1 (hnd m hm).2)
   rw [ya9 hpq hq hn]
   cases hh : (zb1 (L :: Ls) (parent m.path)).have' with
   | nil => rw [hh] at hpart; cases hpart
   | cons a ab =>
    rw [hh] at hpart
    have ha : a = true := by simpa using hpart
    subst ha
    rw [nsOf, if_pos rfl, lk_in hL hm]
    exact ((dec_first (hnd m hm).1 _).2.2 hk).2.2
theorem first_seen {L : List Nd} {Ls : List (List Nd)} (h4 : (L :: Ls).length ≤ 4) (hL : za2 L = true) {n : Nd} (hn : n ∈ L) : zb n = true ∧ ∃ r, zb1 (L :: Ls) n.path = decS (some n :: r) := by
 obtain ⟨hp, hz⟩ := zl8 hL hn
 obtain ⟨-, hnd, hr⟩ := (zl L).1 hL
 have hnm := zq7 hp hz rfl
 have hpq := zx9 hp
 have hpart := first_part (Ls := Ls) h4 hL _ (parent n.path) rfl hpq ((zx2 hr _).1 (hnd n hn).2)
 refine ⟨(hnd n hn).1, ?_⟩
 rw [ya9 hpq hp hnm]
 cases hh : (zb1 (L :: Ls) (parent n.path)).have' with
 | nil => rw [hh] at hpart; cases hpart
 | cons a ab =>
  rw [hh] at hpart
  have ha : a = true := by simpa using hpart
  subst ha
  rw [nsOf, if_pos rfl, lk_in hL hn]
  exact ⟨_, rfl⟩
end Pl
end Go.Proofs.YtcogaghibpajjaaGreatDoor

namespace Go.Proofs.YtcogaghibpajjaaGreatDoor
namespace Pl
theorem bare_node {n : Nd} (h : zb n = true) (hk : n.kind ≠ 0) : zb n.bare = true := by
 simp only [zb, Bool.and_eq_true, decide_eq_true_eq] at h ⊢
 obtain ⟨⟨⟨⟨⟨h1, h2⟩, h3⟩, h4⟩, h5⟩, h6⟩ := h
 refine ⟨⟨⟨⟨⟨h1, h2⟩, h3⟩, h4⟩, by simp [Nd.bare]⟩, ?_⟩
 unfold zj4 at h6 ⊢
 have e : n.bare.kind = n.kind := rfl
 rw [e, if_neg hk] at *
 by_cases hk1 : n.kind = 1
 ·rw [if_pos hk1] at h6 ⊢; exact h6
 ·rw [if_neg hk1] at h6 ⊢
  by_cases hk2 : n.kind = 2
  ·rw [if_pos hk2]; simp [Nd.bare]
  ·rw [if_neg hk2] at h6; cases h6
theorem zo7 {L : List Nd} {n : Nd} : n ∈ zb4 L ↔ ∃ m ∈ L, m.kind ≠ 0 ∧ m.bare = n := by
 unfold zb4
 rw [List.mem_map]
 constructor
 ·rintro ⟨m, hm, e⟩
  obtain ⟨h1, h2⟩ := List.mem_filter.1 hm
  exact ⟨m, h1, by simpa using h2, e⟩
 ·rintro ⟨m, h1, h2, e⟩
  exact ⟨m, List.mem_filter.2 ⟨h1, by simpa using h2⟩, e⟩
theorem zs7 {L : List Nd} (h : za2 L = true) : za2 (zb4 L) = true := by
 rw [zl] at h ⊢
 obtain ⟨h1, h2, h3⟩ := h
 have hp : (zb4 L).Pairwise (fun a b => za6 (names a.path) (names b.path) = true) := by
  unfold zb4
  rw [List.pairwise_map]
  exact h3.filter _
 refine ⟨?_, fun n hn => ?_, hp⟩
 ·have := zv5 L L.length
  rw [List.take_length] at this
  omega
 ·obtain ⟨m, hm, hk, rfl⟩ := zo7.1 hn
  refine ⟨bare_node (h2 m hm).1 hk, ?_⟩
  rw [zx2 hp]
  rcases (zx2 h3 _).1 (h2 m hm).2 with hz | ⟨q, hq, e, hq1⟩
  ·exact .inl hz
  ·exact .inr ⟨q.bare, zo7.2 ⟨q, hq, by rw [hq1]; decide, rfl⟩, e, hq1⟩
theorem plainL_plain {L : List Nd} (h : za2 L = true) : zk3 (zb4 L) = true := by
 unfold zk3
 rw [zs7 h, Bool.true_and, List.all_eq_true]
 intro n hn
 obtain ⟨m, -, -, rfl⟩ := zo7.1 hn
 rfl
end Pl
end Go.Proofs.YtcogaghibpajjaaGreatDoor

namespace Go.Proofs.YtcogaghibpajjaaGreatDoor
namespace Pl
theorem kind_of {n : Nd} (h : zb n = true) : n.kind = 0 ∨ n.kind = 1 ∨ n.kind = 2 := by
 have h3 := (zh0 h).2.2.2
 unfold zj4 at h3
 split at h3
 ·next h0 => exact .inl h0
 ·split at h3
  ·next h1 => exact .inr (.inl h1)
  ·split at h3
   ·next h2 => exact .inr (.inr h2)
   ·cases h3
theorem yf5 {a b : Nd} (h : Alike a b) : a.bare = b.bare := by
 obtain ⟨h1, h2, h3, h4⟩ := h
 unfold Nd.bare
 rw [h1, h2, h3, h4]
theorem plain_one {V : List Nd} (hV : za2 V = true) (h40 : (allO [V]).length ≤ 40) : zb4 (allO [V]) = zb4 V := by
 have htr : ∀ L ∈ [V], za2 L = true := fun L hL => by rw [List.mem_singleton.1 hL]; exact hV
 have hA := yc0 (Ls := [V]) (by simp) htr
 have hT := all_tree (Ls := [V]) (by simp) htr h40
 have h1 := ((zl _).1 (zs7 hT)).2.2
 have h2 := ((zl _).1 (zs7 hV)).2.2
 have key : ∀ m ∈ V, (m.kind = 0 → (zb1 [V] m.path).told = true → (zb1 [V] m.path).node.kind = 0) ∧ (m.kind ≠ 0 → (zb1 [V] m.path).told = true ∧ Alike (zb1 [V] m.path).node m) := fun m hm => by
  obtain ⟨hn, r, e⟩ := first_seen (L := V) (Ls := []) (by simp) hV hm
  rw [e]
  obtain ⟨d0, d2, d1⟩ := dec_first hn r
  refine ⟨d0, fun hk => ?_⟩
  rcases kind_of hn with h | h | h
  ·exact absurd h hk
  ·exact ⟨(d1 h).1, (d1 h).2.1⟩
  ·exact ⟨(d2 h).1, by rw [(d2 h).2]; exact Alike.refl _⟩
 refine sorted_ext h1 h2 (fun n => ?_)
 rw [zo7, zo7]
 constructor
 ·rintro ⟨x, hx, hk, rfl⟩
  obtain ⟨L, hL, m, hm, ht, rfl⟩ := (hA.mem x).1 hx
  rw [List.mem_singleton.1 hL] at hm
  have hmk : m.kind ≠ 0 := fun h0 => hk ((key m hm).1 h0 ht)
  exact ⟨m, hm, hmk, (yf5 ((key m hm).2 hmk).2).symm⟩
 ·rintro ⟨m, hm, hk, rfl⟩
  obtain ⟨ht, ha⟩ := (key m hm).2 hk
  exact ⟨_, (hA.mem _).2 ⟨V, List.mem_singleton.2 rfl, m, hm, ht, rfl⟩, by rw [ha.kind]; exact hk, yf5 ha⟩
end Pl
end Go.Proofs.YtcogaghibpajjaaGreatDoor

namespace Go.Proofs.YtcogaghibpajjaaGreatDoor
namespace Pl
theorem one_len {V : List Nd} (hV : za2 V = true) : (allO [V]).length ≤ 40 := by
 have htr : ∀ L ∈ [V], za2 L = true := fun L hL => by rw [List.mem_singleton.1 hL]; exact hV
 have h4 : [V].length ≤ 4 := by simp
 have ha := zq0 h4
 have hs := zr8 h4 htr 7 _ _ ha
 have h1 := nodup_le ((allO [V]).map (·.path)) ([V].flatMap (fun L => L.map (·.path))) (by
  unfold List.Nodup
  rw [List.pairwise_map]
  exact (zy2 h4 htr 7 _ _ ha).imp (fun {a b} h e => by rw [e, zg3] at h; cases h)) (fun x hx => by
  obtain ⟨n, hn, rfl⟩ := List.mem_map.1 hx
  have ht := (hs n hn).1
  obtain ⟨L, hL, m, hm, h5, h6⟩ := ht
  have hw := zl8 (htr L hL) hm
  refine List.mem_flatMap.2 ⟨L, hL, List.mem_map.2 ⟨m, hm, ?_⟩⟩
  rw [h6, zn8 hw.1 hw.2 h5])
 have h2 := flat_le [V] htr
 rw [List.length_map] at h1
 simp only [List.length_cons, List.length_nil] at h2
 omega
theorem sight_one {xs : List (Int × List Nd)} {F : Fo} (h : zc3 xs = 0) (h1 : nest (rowO ((1, []) :: xs)) = some F) : zc3 ((1, []) :: xs) = 0 ∧ zh4 ((1, []) :: xs) = zh4 xs := by
 have hT := zn6 h
 have hS := zq3 h
 unfold zc3 at h
 split at h
 ·cases h
 cases hn : nest (rowO xs) with
 | none => rw [zv4 hn] at h; cases h
 | some G =>
  obtain ⟨L, k, e1, e2, o, e3⟩ := yc6 hn
  rw [e3] at h
  cases hv : ze5 L k with
  | none => simp only [hv] at h; cases h
  | some V =>
   have hl := zs4 hn
   obtain ⟨hc, hV⟩ := zy4 hl e3 hv
   rw [hV] at hT hS
   obtain ⟨g1, g2, g3⟩ := yb8 h1
   have g1' : ((1, []) :: xs : List (Int × List Nd)).length ≤ 12 := by rw [zp9] at g1; exact g1
   have e0 : rowO (((1 : Int), ([] : List Nd)) :: xs) = some 1 :: rowO xs := rfl
   obtain ⟨-, g4, -⟩ := yb8 hn
   rw [e0, zw6, g4] at g2
   simp only [Option.map_some, Option.some.injEq, Prod.mk.injEq, Fo.cons.injEq, and_true] at g2
   have hsh : F = (Fx.cons L k .nil).shape := by rw [Fx.shape, Fx.shape, e1]; exact g2.symm
   have hX : zo0 (((1 : Int), ([] : List Nd)) :: xs) = some ([], Fx.cons L k .nil) := zu8 (by rw [h1, hsh]) (by
    rw [Fx.flat, e2]; simp [Fx.flat, Fx.len])
   have hw : ze5 [] (Fx.cons L k .nil) = some (allO [V]) := by
    rw [zy7 (by simp [Fx.len]), zq8, hv]
    exact if_pos (one_len hT)
   obtain ⟨d1, d2⟩ := zy4 g1' hX hw
   refine ⟨d1, ?_⟩
   rw [zq3 d1, d2, hS, plain_one hT (one_len hT)]
theorem sight_tree {xs : List (Int × List Nd)} (h : zc3 xs = 0) : za2 (zh4 xs) = true := by
 rw [zq3 h]; exact zs7 (zn6 h)
theorem sight_plain {xs : List (Int × List Nd)} (h : zc3 xs = 0) : zk3 (zh4 xs) = true := by
 rw [zq3 h]; exact plainL_plain (zn6 h)
end Pl
end Go.Proofs.YtcogaghibpajjaaGreatDoor

