/- Several texts of one claim in one file: PlainAtS, PlainWalkO. -/
import Derived.Test.YtfdbokipgofcdaaGreatDoorG34
import Derived.Test.YtfdbokipgofcdaaGreatDoorWSeenI
import Derived.Calls
import Derived.Lone
import Derived.RunT
import Derived.Shelf.SlSortCmp.NoneTotal
import Derived.Lib.QuietBelow
import Derived.Maps.RangeWalk
import Derived.Sort.MapsRangeIn
namespace Go.Proofs.YtfdbokipgofcdaaGreatDoor
open Go.RowKit
namespace Pl
theorem pick_skip (p : ByteArray) : ∀ (l : List (Nat × Option Nd)) (o : Ot) (m : Int), zp1 p o m l = zp1 p o m (l.filter (fun x => x.2.isSome)) := by
 intro l
 induction l with
 | nil => intro o m; rfl
 | cons x l ih =>
  intro o m
  obtain ⟨k, y⟩ := x
  cases y with
  | none => simp only [zp1, List.filter]; exact ih o m
  | some n =>
   simp only [List.filter, Option.isSome, zp1]
   rw [ih, ih]
   rfl
theorem sub_filter {l m : List Nat} (h : l.Sublist m) : m.Nodup → m.filter (fun k => decide (k ∈ l)) = l := by
 induction h with
 | slnil => intro _; rfl
 | @cons l m a h ih =>
  intro hn
  have hn' := List.nodup_cons.1 hn
  have ha : a ∉ l := fun h2 => hn'.1 (h.subset h2)
  rw [List.filter_cons_of_neg (by simpa using ha)]
  exact ih hn'.2
 | @cons_cons l m a h ih =>
  intro hn
  have hn' := List.nodup_cons.1 hn
  rw [List.filter_cons_of_pos (by simp)]
  congr 1
  rw [← ih hn'.2]
  apply List.filter_congr
  intro k hk
  have : k ≠ a := fun e => hn'.1 (e ▸ hk)
  rw [ih hn'.2]
  simp [this]
theorem numb_map : ∀ (ns : List (Option Nd)) (j : Nat), numb j ns = (List.range ns.length).map (fun i => (j + i, ns.getD i none)) := by
 intro ns
 induction ns with
 | nil => intro j; rfl
 | cons x ns ih =>
  intro j
  rw [numb, ih, List.length_cons, List.range_succ_eq_map, List.map_cons, List.map_map]
  congr 1
  apply List.map_congr_left
  intro i _
  simp
  omega
theorem filter_ask (ks : List Nat) (R : List Nat) (f : Nat → Option Nd) : (R.map (fun i => (i, if decide (i ∈ ks) then f i else none))).filter (fun x => x.2.isSome) = ((R.filter (fun k => decide (k ∈ ks))).map (fun i => (i, f i))).filter (fun x => x.2.isSome) := by
 induction R with
 | nil => rfl
 | cons a R ih =>
  by_cases h : a ∈ ks
  ·simp only [List.map_cons, List.filter_cons, h, decide_true, if_true]
   split <;> rw [ih]
  ·simp only [List.map_cons, List.filter_cons, h, decide_false, Bool.false_eq_true, if_false, Option.isSome]
   exact ih
theorem ns_path : ∀ (ab : List Bool) (Ls : List (List Nd)) (p : ByteArray) (n : Nd), some n ∈ nsOf ab Ls p → n.path = p := by
 intro ab
 induction ab with
 | nil => intro Ls p n h; simp [nsOf] at h
 | cons a ab ih =>
  intro Ls p n h
  cases Ls with
  | nil => simp [nsOf] at h
  | cons L Ls =>
   rw [nsOf] at h
   rcases List.mem_cons.1 h with h | h
   ·cases a
    ·simp at h
    ·simp only [if_true] at h
     have h2 := h.symm
     unfold lk at h2
     simpa using List.find?_some h2
   ·exact ih Ls p n h
theorem ask_same {Ls : List (List Nd)} {ks : List Nat} {q : ByteArray} (h4 : Ls.length ≤ 4) (hs : ks.Sublist (List.range Ls.length)) : (numb 0 (nsOf (zc7 ks) Ls q)).filter (fun x => x.2.isSome) = (askO Ls ks q).filter (fun x => x.2.isSome) := by
 have hl : (nsOf (zc7 ks) Ls q).length = Ls.length := ns_len q (zc7 ks) Ls (by simpa [zc7] using h4)
 have hget : ∀ i, i < Ls.length → (nsOf (zc7 ks) Ls q).getD i none = if decide (i ∈ ks) then lk (Ls.getD i []) q else none := fun i hi => by
  have h1 : (zc7 ks)[i]? = some (decide (i ∈ ks)) := by simp [zc7, show i < 4 by omega]
  have h2 : Ls[i]? = some (Ls.getD i []) := by simp [List.getD, hi]
  rw [List.getD, ns_get q (zc7 ks) Ls i _ _ h1 h2]
  rfl
 rw [numb_map, hl]
 have e : (List.range Ls.length).map (fun i => (0 + i, (nsOf (zc7 ks) Ls q).getD i none)) = (List.range Ls.length).map (fun i => (i, if decide (i ∈ ks) then lk (Ls.getD i []) q else none)) := by
  apply List.map_congr_left
  intro i hi
  rw [hget i (List.mem_range.1 hi), Nat.zero_add]
 rw [e, askO]
 conv => rhs; rw [← sub_filter hs (List.nodup_range)]
 exact filter_ask _ _ (fun i => lk (Ls.getD i []) q)
theorem pick_sub (p : ByteArray) : ∀ (l : List (Nat × Option Nd)) (o : Ot) (m : Int), ∃ ks, ks.Sublist (l.map Prod.fst) ∧ ((zp1 p o m l).parts = o.parts ++ ks ∨ (zp1 p o m l).parts = []) := by
 intro l
 induction l with
 | nil => intro o m; exact ⟨[], List.nil_sublist _, .inl (by simp [zp1, finO])⟩
 | cons x l ih =>
  intro o m
  obtain ⟨k, y⟩ := x
  cases y with
  | none =>
   obtain ⟨ks, h1, h2⟩ := ih o m
   exact ⟨ks, h1.cons _, h2⟩
  | some n =>
   simp only [zp1]
   by_cases hp : o.parts = []
   ·rw [if_pos hp]
    by_cases hk : n.kind = 1
    ·rw [if_pos hk]
     by_cases hm : 0 < n.mark
     ·rw [if_pos hm]
      exact ⟨[k], by simp, .inl (by simp [finO, hp])⟩
     ·rw [if_neg hm]
      obtain ⟨ks, h1, h2⟩ := ih ⟨true, ⟨p, 1, ⟨#[]⟩, n.time, 0⟩, [k]⟩ (max m n.mark)
      refine ⟨k :: ks, h1.cons_cons _, ?_⟩
      rcases h2 with h2 | h2
      ·exact .inl (by rw [h2, hp]; rfl)
      ·exact .inr h2
    ·rw [if_neg hk]
     split
     ·exact ⟨[], List.nil_sublist _, .inr rfl⟩
     ·exact ⟨[], List.nil_sublist _, .inr rfl⟩
   ·rw [if_neg hp]
    by_cases hk : n.kind = 1
    ·rw [if_pos hk]
     by_cases hm : 0 < n.mark
     ·rw [if_pos hm]
      exact ⟨[k], by simp, .inl (by simp [finO])⟩
     ·rw [if_neg hm]
      obtain ⟨ks, h1, h2⟩ := ih ⟨o.ok, o.node, o.parts ++ [k]⟩ (max m n.mark)
      refine ⟨k :: ks, h1.cons_cons _, ?_⟩
      rcases h2 with h2 | h2
      ·exact .inl (by rw [h2]; simp)
      ·exact .inr h2
    ·rw [if_neg hk]
     exact ⟨[], List.nil_sublist _, .inl (by simp [finO])⟩
theorem child_sub {Ls : List (List Nd)} {ks : List Nat} {q : ByteArray} (hs : ks.Sublist (List.range Ls.length)) : (zq4 Ls ks q).parts.Sublist (List.range Ls.length) := by
 obtain ⟨js, h1, h2⟩ := pick_sub q (askO Ls ks q) zeroO 0
 have e : (askO Ls ks q).map Prod.fst = ks := by
  unfold askO
  rw [List.map_map]
  exact List.map_id' ks
 rw [e] at h1
 unfold zq4
 rcases h2 with h2 | h2
 ·rw [h2]; exact h1.trans hs
 ·rw [h2]; exact List.nil_sublist _
theorem child_same {Ls : List (List Nd)} {ks : List Nat} {q : ByteArray} (h4 : Ls.length ≤ 4) (htr : ∀ L ∈ Ls, za2 L = true) (hs : ks.Sublist (List.range Ls.length)) : SameO (zq4 Ls ks q) (decS (nsOf (zc7 ks) Ls q)) := by
 have hr : yf3 q (nsOf (zc7 ks) Ls q) := fun n hn => by
  obtain ⟨L, hL, hm⟩ := ns_mem _ _ _ _ hn
  have h1 := htr L hL
  simp only [za2, Bool.and_eq_true, decide_eq_true_eq] at h1
  exact ⟨zu9 L _ _ h1.2 n hm, ns_path _ _ _ _ hn⟩
 have h := pick_dec hr (by rw [ns_len q (zc7 ks) Ls (by simpa [zc7] using h4)]; exact h4)
 rw [pick_skip, ask_same h4 hs, ← pick_skip] at h
 exact h
theorem dec_none (Ls : List (List Nd)) (q : ByteArray) : decS (nsOf (zc7 []) Ls q) = Sg.zero := by
 have h : ∀ (ab : List Bool) (Ls : List (List Nd)) (k : Nat), (∀ b ∈ ab, b = false) → goD k Sg.zero (nsOf ab Ls q) = Sg.zero := by
  intro ab
  induction ab with
  | nil => intro Ls k _; rfl
  | cons a ab ih =>
   intro Ls k hb
   cases Ls with
   | nil => rfl
   | cons L Ls =>
    have ha := hb a List.mem_cons_self
    subst ha
    exact ih Ls (k + 1) (fun b h => hb b (List.mem_cons_of_mem _ h))
 unfold decS
 rw [h _ _ _ (by simp [zc7])]
 rfl
theorem walk_none (Ls : List (List Nd)) : ∀ (ps : List ByteArray) (s : Sg), s.have' = zc7 [] → ps ≠ [] → zn9 Ls s ps = Sg.zero := by
 intro ps
 induction ps with
 | nil => intro s _ h; exact absurd rfl h
 | cons q ps ih =>
  intro s hs _
  show zn9 Ls (decS (nsOf s.have' Ls q)) ps = Sg.zero
  rw [hs, dec_none]
  by_cases hp : ps = []
  ·subst hp; rfl
  ·exact ih _ rfl hp
end Pl
end Go.Proofs.YtfdbokipgofcdaaGreatDoor

namespace Go.Proofs.YtfdbokipgofcdaaGreatDoor
namespace Pl
theorem lessT_trans {a b c : ByteArray} (h1 : ya5 a b = true) (h2 : ya5 b c = true) : ya5 a c = true := bytes_trans _ _ _ h1 h2
theorem lessT_irr (a : ByteArray) : ya5 a a = false := bytes_irr _
theorem lessT_tot {a b : ByteArray} (h : a ≠ b) (h2 : ya5 a b = false) : ya5 b a = true := by
 have h3 := yl a.toList b.toList (fun e => h (by have := WNamesT.tl_eq h; rw [e] at this; simp at this))
 unfold ya5 at h2 ⊢
 rw [h2] at h3
 cases h4 : Op.bytesLess b.toList a.toList
 ·rw [h4] at h3; cases h3
 ·rfl
def Rise (l : List ByteArray) : Prop := l.Pairwise (fun a b => ya5 a b = true)
theorem ins_mem (t x : ByteArray) : ∀ l : List ByteArray, x ∈ insN t l ↔ x = t ∨ x ∈ l := by
 intro l
 induction l with
 | nil => simp [insN]
 | cons a l ih =>
  rw [insN]
  split
  ·rw [List.mem_cons, ih, List.mem_cons]
   constructor
   ·rintro (h | h | h)
    ·exact .inr (.inl h)
    ·exact .inl h
    ·exact .inr (.inr h)
   ·rintro (h | h | h)
    ·exact .inr (.inl h)
    ·exact .inl h
    ·exact .inr (.inr h)
  ·split
   ·rename_i e
    subst e
    simp
   ·simp
theorem ins_rise (t : ByteArray) : ∀ l : List ByteArray, Rise l → Rise (insN t l) := by
 intro l
 induction l with
 | nil => intro _; exact List.pairwise_singleton _ _
 | cons a l ih =>
  intro h
  have h' := List.pairwise_cons.1 h
  rw [insN]
  split
  ·rename_i hlt
   refine List.pairwise_cons.2 ⟨fun x hx => ?_, ih h'.2⟩
   rcases (ins_mem t x l).1 hx with e | e
   ·rw [e]; exact hlt
   ·exact h'.1 x e
  ·rename_i hlt
   split
   ·exact h
   ·rename_i hne
    have hta : ya5 t a = true := lessT_tot (fun e => hne e) (by simpa using hlt)
    refine List.pairwise_cons.2 ⟨fun x hx => ?_, h⟩
    rcases List.mem_cons.1 hx with e | e
    ·rw [e]; exact hta
    ·exact lessT_trans hta (h'.1 x e)
theorem insAll_ok : ∀ (K out : List ByteArray), Rise out → Rise (yh3 out K) ∧ ∀ x, x ∈ yh3 out K ↔ x ∈ out ∨ x ∈ K := by
 intro K
 induction K with
 | nil => intro out h; exact ⟨h, fun x => by simp [yh3]⟩
 | cons t K ih =>
  intro out h
  obtain ⟨h1, h2⟩ := ih (insN t out) (ins_rise t out h)
  refine ⟨h1, fun x => ?_⟩
  show x ∈ yh3 (insN t out) K ↔ _
  rw [h2, ins_mem, List.mem_cons]
  constructor
  ·rintro ((h | h) | h)
   ·exact .inr (.inl h)
   ·exact .inl h
   ·exact .inr (.inr h)
  ·rintro (h | h | h)
   ·exact .inl (.inr h)
   ·exact .inl (.inl h)
   ·exact .inr h
theorem yq8 (Ls : List (List Nd)) (q : ByteArray) (ks : List Nat) : Rise (yg8 Ls q ks) ∧ ∀ x, x ∈ yg8 Ls q ks ↔ ∃ k ∈ ks, x ∈ yb0 q (Ls.getD k []) := by
 have key : ∀ (ks : List Nat) (out : List ByteArray), Rise out → Rise (ks.foldl (fun o k => yh3 o (yb0 q (Ls.getD k []))) out) ∧ ∀ x, x ∈ ks.foldl (fun o k => yh3 o (yb0 q (Ls.getD k []))) out ↔ x ∈ out ∨ ∃ k ∈ ks, x ∈ yb0 q (Ls.getD k []) := by
  intro ks
  induction ks with
  | nil => intro out h; exact ⟨h, fun x => by simp⟩
  | cons k ks ih =>
   intro out h
   obtain ⟨h1, h2⟩ := insAll_ok (yb0 q (Ls.getD k [])) out h
   obtain ⟨h3, h4⟩ := ih _ h1
   refine ⟨h3, fun x => ?_⟩
   rw [List.foldl_cons, h4, h2]
   constructor
   ·rintro ((h | h) | ⟨j, hj, hx⟩)
    ·exact .inl h
    ·exact .inr ⟨k, List.mem_cons_self, h⟩
    ·exact .inr ⟨j, List.mem_cons_of_mem _ hj, hx⟩
   ·rintro (h | ⟨j, hj, hx⟩)
    ·exact .inl (.inl h)
    ·rcases List.mem_cons.1 hj with e | e
     ·subst e; exact .inl (.inr hx)
     ·exact .inr ⟨j, e, hx⟩
 obtain ⟨h1, h2⟩ := key ks [] List.Pairwise.nil
 exact ⟨h1, fun x => by show x ∈ ks.foldl _ [] ↔ _; rw [h2]; simp⟩
def stepO (sub : List Nat → ByteArray → List Nd) (Ls : List (List Nd)) (ks : List Nat) (q t : ByteArray) : List Nd :=
 if (zq4 Ls ks (zg q t)).ok = true then (zq4 Ls ks (zg q t)).node :: (if (zq4 Ls ks (zg q t)).node.kind = 1 then sub (zq4 Ls ks (zg q t)).parts (zg q t) else []) else []
def walkO (Ls : List (List Nd)) : Nat → List Nat → ByteArray → List Nd
 | 0, _, _ => []
 | d + 1, ks, q => (yg8 Ls q ks).flatMap (stepO (walkO Ls d) Ls ks q)
structure At4 (Ls : List (List Nd)) (ks : List Nat) (q : ByteArray) : Prop where
 sub : ks.Sublist (List.range Ls.length)
 path : za5 q = true
 parts : (zb2 Ls q).have' = zc7 ks
theorem zz5 {Ls : List (List Nd)} {q p t : ByteArray} (hq : za5 q = true) (hp : za5 p = true) (h : names p = names q ++ [t]) : zb2 Ls p = decS (nsOf (zb2 Ls q).have' Ls p) := by
 unfold zb2
 rw [zg2 hp, zg2 hq, h, List.length_append, List.length_singleton, yp4, yi6]
 have e1 : ways (names q ++ [t]) (names q).length = ways (names q) (names q).length := by
  unfold ways
  apply List.map_congr_left
  intro i hi
  have hi2 := List.mem_range.1 hi
  rw [List.take_append_of_le_length (by omega)]
 have e2 : glue ((names q ++ [t]).take ((names q).length + 1)) = p := by
  rw [List.take_of_length_le (by simp), ← h, zp7]
 rw [e1, e2]
end Pl
end Go.Proofs.YtfdbokipgofcdaaGreatDoor

