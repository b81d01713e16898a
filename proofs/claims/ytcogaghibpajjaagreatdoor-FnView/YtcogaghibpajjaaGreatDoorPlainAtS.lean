import Derived.Test.YtcogaghibpajjaaGreatDoorG02
import Derived.Test.YtcogaghibpajjaaGreatDoorWSeenI
namespace Go.Proofs.YtcogaghibpajjaaGreatDoor
open Go.RowKit
namespace Pl
theorem pick_skip (p : ByteArray) : ∀ (l : List (Nat × Option Nd)) (o : Ot) (m : Int), zd2 p o m l = zd2 p o m (l.filter (fun x => x.2.isSome)) := by
 intro l
 induction l with
 | nil => intro o m; rfl
 | cons x l ih =>
  intro o m
  obtain ⟨k, y⟩ := x
  cases y with
  | none => simp only [zd2, List.filter]; exact ih o m
  | some n =>
   simp only [List.filter, Option.isSome, zd2]
   rw [ih, ih]
   rfl
theorem sub_filter {l m : List Nat} (h : l.Sublist m) : m.Nodup → m.filter (fun k => decide (k ∈ l)) = l := by
 induction h with
 | slnil => intro _; rfl
 | @cons l m a h ih =>
  intro hn
  have hn' := List.nodup_cons.1 hn
  have ha : a ∉ l := fun h2 => hn'.1 (h.subset h2)
  rw [List.filter_cons_of_neg (by simpa using ha)]
  exact ih hn'.2
 | @cons_cons l m a h ih =>
  intro hn
  have hn' := List.nodup_cons.1 hn
  rw [List.filter_cons_of_pos (by simp)]
  congr 1
  rw [← ih hn'.2]
  apply List.filter_congr
  intro k hk
  have : k ≠ a := fun e => hn'.1 (e ▸ hk)
  rw [ih hn'.2]
  simp [this]
theorem numb_map : ∀ (ns : List (Option Nd)) (j : Nat), numb j ns = (List.range ns.length).map (fun i => (j + i, ns.getD i none)) := by
 intro ns
 induction ns with
 | nil => intro j; rfl
 | cons x ns ih =>
  intro j
  rw [numb, ih, List.length_cons, List.range_succ_eq_map, List.map_cons, List.map_map]
  congr 1
  apply List.map_congr_left
  intro i _
  simp
  omega
theorem filter_ask (ks : List Nat) (R : List Nat) (f : Nat → Option Nd) : (R.map (fun i => (i, if decide (i ∈ ks) then f i else none))).filter (fun x => x.2.isSome) = ((R.filter (fun k => decide (k ∈ ks))).map (fun i => (i, f i))).filter (fun x => x.2.isSome) := by
 induction R with
 | nil => rfl
 | cons a R ih =>
  by_cases h : a ∈ ks
  ·simp only [List.map_cons, List.filter_cons, h, decide_true, if_true]
   split <;> rw [ih]
  ·simp only [List.map_cons, List.filter_cons, h, decide_false, Bool.false_eq_true, if_false, Option.isSome]
   exact ih
theorem ns_path : ∀ (ab : List Bool) (Ls : List (List Nd)) (p : ByteArray) (n : Nd), some n ∈ nsOf ab Ls p → n.path = p := by
 intro ab
 induction ab with
 | nil => intro Ls p n h; simp [nsOf] at h
 | cons a ab ih =>
  intro Ls p n h
  cases Ls with
  | nil => simp [nsOf] at h
  | cons L Ls =>
   rw [nsOf] at h
   rcases List.mem_cons.1 h with h | h
   ·cases a
    ·simp at h
    ·simp only [if_true] at h
     have h2 := h.symm
     unfold lk at h2
     simpa using List.find?_some h2
   ·exact ih Ls p n h
theorem ask_same {Ls : List (List Nd)} {ks : List Nat} {q : ByteArray} (h4 : Ls.length ≤ 4) (hs : ks.Sublist (List.range Ls.length)) : (numb 0 (nsOf (zb3 ks) Ls q)).filter (fun x => x.2.isSome) = (askO Ls ks q).filter (fun x => x.2.isSome) := by
 have hl : (nsOf (zb3 ks) Ls q).length = Ls.length := ns_len q (zb3 ks) Ls (by simpa [zb3] using h4)
 have hget : ∀ i, i < Ls.length → (nsOf (zb3 ks) Ls q).getD i none = if decide (i ∈ ks) then lk (Ls.getD i []) q else none := fun i hi => by
  have h1 : (zb3 ks)[i]? = some (decide (i ∈ ks)) := by simp [zb3, show i < 4 by omega]
  have h2 : Ls[i]? = some (Ls.getD i []) := by simp [List.getD, hi]
  rw [List.getD, ns_get q (zb3 ks) Ls i _ _ h1 h2]
  rfl
 rw [numb_map, hl]
 have e : (List.range Ls.length).map (fun i => (0 + i, (nsOf (zb3 ks) Ls q).getD i none)) = (List.range Ls.length).map (fun i => (i, if decide (i ∈ ks) then lk (Ls.getD i []) q else none)) := by
  apply List.map_congr_left
  intro i hi
  rw [hget i (List.mem_range.1 hi), Nat.zero_add]
 rw [e, askO]
 conv => rhs; rw [← sub_filter hs (List.nodup_range)]
 exact filter_ask _ _ (fun i => lk (Ls.getD i []) q)
theorem pick_sub (p : ByteArray) : ∀ (l : List (Nat × Option Nd)) (o : Ot) (m : Int), ∃ ks, ks.Sublist (l.map Prod.fst) ∧ ((zd2 p o m l).parts = o.parts ++ ks ∨ (zd2 p o m l).parts = []) := by
 intro l
 induction l with
 | nil => intro o m; exact ⟨[], List.nil_sublist _, .inl (by simp [zd2, finO])⟩
 | cons x l ih =>
  intro o m
  obtain ⟨k, y⟩ := x
  cases y with
  | none =>
   obtain ⟨ks, h1, h2⟩ := ih o m
   exact ⟨ks, h1.cons _, h2⟩
  | some n =>
   simp only [zd2]
   by_cases hp : o.parts = []
   ·rw [if_pos hp]
    by_cases hk : n.kind = 1
    ·rw [if_pos hk]
     by_cases hm : 0 < n.mark
     ·rw [if_pos hm]
      exact ⟨[k], by simp, .inl (by simp [finO, hp])⟩
     ·rw [if_neg hm]
      obtain ⟨ks, h1, h2⟩ := ih ⟨true, ⟨p, 1, ⟨#[]⟩, n.time, 0⟩, [k]⟩ (max m n.mark)
      refine ⟨k :: ks, h1.cons_cons _, ?_⟩
      rcases h2 with h2 | h2
      ·exact .inl (by rw [h2, hp]; rfl)
      ·exact .inr h2
    ·rw [if_neg hk]
     split
     ·exact ⟨[], List.nil_sublist _, .inr rfl⟩
     ·exact ⟨[], List.nil_sublist _, .inr rfl⟩
   ·rw [if_neg hp]
    by_cases hk : n.kind = 1
    ·rw [if_pos hk]
     by_cases hm : 0 < n.mark
     ·rw [if_pos hm]
      exact ⟨[k], by simp, .inl (by simp [finO])⟩
     ·rw [if_neg hm]
      obtain ⟨ks, h1, h2⟩ := ih ⟨o.ok, o.node, o.parts ++ [k]⟩ (max m n.mark)
      refine ⟨k :: ks, h1.cons_cons _, ?_⟩
      rcases h2 with h2 | h2
      ·exact .inl (by rw [h2]; simp)
      ·exact .inr h2
    ·rw [if_neg hk]
     exact ⟨[], List.nil_sublist _, .inl (by simp [finO])⟩
theorem child_sub {Ls : List (List Nd)} {ks : List Nat} {q : ByteArray} (hs : ks.Sublist (List.range Ls.length)) : (zg6 Ls ks q).parts.Sublist (List.range Ls.length) := by
 obtain ⟨js, h1, h2⟩ := pick_sub q (askO Ls ks q) zeroO 0
 have e : (askO Ls ks q).map Prod.fst = ks := by
  unfold askO
  rw [List.map_map]
  exact List.map_id' ks
 rw [e] at h1
 unfold zg6
 rcases h2 with h2 | h2
 ·rw [h2]; exact h1.trans hs
 ·rw [h2]; exact List.nil_sublist _
theorem child_same {Ls : List (List Nd)} {ks : List Nat} {q : ByteArray} (h4 : Ls.length ≤ 4) (htr : ∀ L ∈ Ls, za2 L = true) (hs : ks.Sublist (List.range Ls.length)) : SameO (zg6 Ls ks q) (decS (nsOf (zb3 ks) Ls q)) := by
 have hr : zw0 q (nsOf (zb3 ks) Ls q) := fun n hn => by
  obtain ⟨L, hL, hm⟩ := ns_mem _ _ _ _ hn
  have h1 := htr L hL
  simp only [za2, Bool.and_eq_true, decide_eq_true_eq] at h1
  exact ⟨zo8 L _ _ h1.2 n hm, ns_path _ _ _ _ hn⟩
 have h := pick_dec hr (by rw [ns_len q (zb3 ks) Ls (by simpa [zb3] using h4)]; exact h4)
 rw [pick_skip, ask_same h4 hs, ← pick_skip] at h
 exact h
theorem dec_none (Ls : List (List Nd)) (q : ByteArray) : decS (nsOf (zb3 []) Ls q) = Sg.zero := by
 have h : ∀ (ab : List Bool) (Ls : List (List Nd)) (k : Nat), (∀ b ∈ ab, b = false) → goD k Sg.zero (nsOf ab Ls q) = Sg.zero := by
  intro ab
  induction ab with
  | nil => intro Ls k _; rfl
  | cons a ab ih =>
   intro Ls k hb
   cases Ls with
   | nil => rfl
   | cons L Ls =>
    have ha := hb a List.mem_cons_self
    subst ha
    exact ih Ls (k + 1) (fun b h => hb b (List.mem_cons_of_mem _ h))
 unfold decS
 rw [h _ _ _ (by simp [zb3])]
 rfl
theorem walk_none (Ls : List (List Nd)) : ∀ (ps : List ByteArray) (s : Sg), s.have' = zb3 [] → ps ≠ [] → zk2 Ls s ps = Sg.zero := by
 intro ps
 induction ps with
 | nil => intro s _ h; exact absurd rfl h
 | cons q ps ih =>
  intro s hs _
  show zk2 Ls (decS (nsOf s.have' Ls q)) ps = Sg.zero
  rw [hs, dec_none]
  by_cases hp : ps = []
  ·subst hp; rfl
  ·exact ih _ rfl hp
end Pl
end Go.Proofs.YtcogaghibpajjaaGreatDoor
