/- Several texts of one claim in one file: PlainFB, PlainNFwd. -/
import Derived.Test.YtioildojmckepaaGreatDoorPlainRead
import Derived.Test.YtioildojmckepaaGreatDoorPlainFwd
import Derived.Test.YtioildojmckepaaGreatDoorPlainNRead
namespace Go.Proofs.YtioildojmckepaaGreatDoor
namespace Pl
theorem getText_fwd' {s u : ByteArray} {p : Nat} {r : List UInt8} (h8 : s.size ≤ 8000) (hu : u.size ≤ 8000) (hd : (by_ s).drop p = enc (fold (u.size : Int)) ++ (by_ u ++ r)) : za6 s (p : Int) = (u, ((p + (enc (fold (u.size : Int))).length + u.size : Nat) : Int), 0) := by
 have hn := zs8 (n := (u.size : Int)) h8 (by omega) (by omega) hd
 have hl : (by_ s).length - p = (enc (fold (u.size : Int))).length + (u.size + r.length) := by rw [← List.length_drop, hd, List.length_append, List.length_append, zb9]
 rw [zb9] at hl
 have hlen := (num_len (n := (u.size : Int)) (by omega) (by omega)).1
 unfold za6
 rw [hn]
 simp only [ne_eq, not_true_eq_false, if_false, Int.toNat_natCast]
 rw [if_neg (by omega), if_neg (by omega)]
 refine Prod.ext (zh ?_) (Prod.ext (by simp only; omega) rfl)
 simp only
 rw [zn2, ← List.drop_drop, hd, List.drop_left, show p + (enc (fold (u.size : Int))).length + u.size - (p + (enc (fold (u.size : Int))).length) = u.size by omega, ← zb9, List.take_left]
theorem by_put {u : ByteArray} (hu : u.size ≤ 8000) : by_ (zc6.put u) = enc (fold (u.size : Int)) ++ by_ u := by
 rw [zc6.zm1 (by omega), by_mk]; rfl
theorem zv2 (n : Int) : by_ (num n) = enc (fold n) := by_mk _
theorem strR_fwd {s u : ByteArray} {p : Nat} {r : List UInt8} (h8 : s.size ≤ 8000) (hu : u.size ≤ 8000) (hd : (by_ s).drop p = by_ (zc6.put u) ++ r) : strR s (p : Int) none = (u, ((p + (by_ (zc6.put u)).length : Nat) : Int), none) ∧ (by_ s).drop (p + (by_ (zc6.put u)).length) = r := by
 have e := by_put hu
 rw [e, List.append_assoc] at hd
 have h := getText_fwd' h8 hu hd
 have hl : (by_ (zc6.put u)).length = (enc (fold (u.size : Int))).length + u.size := by rw [e, List.length_append, zb9]
 refine ⟨?_, ?_⟩
 ·simp only [strR]
  rw [h, if_pos rfl, hl, Nat.add_assoc]
 ·rw [← List.drop_drop, hd, ← List.append_assoc, ← e, List.drop_left]
theorem zy5 {s : ByteArray} {n : Int} {p : Nat} {r : List UInt8} (h8 : s.size ≤ 8000) (h1 : -9223372036854775808 ≤ n) (h2 : n ≤ 9223372036854775807) (hd : (by_ s).drop p = by_ (num n) ++ r) : numR s (p : Int) none = (n, ((p + (by_ (num n)).length : Nat) : Int), none) ∧ (by_ s).drop (p + (by_ (num n)).length) = r := by
 rw [zv2] at hd
 have h := zs8 h8 h1 h2 hd
 refine ⟨?_, ?_⟩
 ·simp only [numR]
  rw [h, if_pos rfl, zv2]
 ·rw [← List.drop_drop, hd, zv2, List.drop_left]
def okN (n : Nd) : Prop := n.path.size ≤ 8000 ∧ n.data.size ≤ 8000 ∧ (-9223372036854775808 ≤ n.kind ∧ n.kind ≤ 9223372036854775807) ∧ (-9223372036854775808 ≤ n.time ∧ n.time ≤ 9223372036854775807) ∧ (-9223372036854775808 ≤ n.mark ∧ n.mark ≤ 9223372036854775807)
theorem cat_node (n : Nd) : cat (zc4 n) = by_ (zc6.put n.path) ++ (by_ (num n.kind) ++ (by_ (zc6.put n.data) ++ (by_ (num n.time) ++ by_ (num n.mark)))) := by
 simp [cat, zc4, by_]
theorem nodeR_fwd {s : ByteArray} {n : Nd} {p : Nat} {r : List UInt8} (h8 : s.size ≤ 8000) (hn : okN n) (hd : (by_ s).drop p = cat (zc4 n) ++ r) : zh2 s (p : Int) none = ⟨n, ((p + (cat (zc4 n)).length : Nat) : Int), none⟩ ∧ (by_ s).drop (p + (cat (zc4 n)).length) = r := by
 obtain ⟨h1, h2, h3, h4, h5⟩ := hn
 have hc := cat_node n
 have hd2 : (by_ s).drop (p + (cat (zc4 n)).length) = r := by rw [← List.drop_drop, hd, List.drop_left]
 rw [hc] at hd
 simp only [List.append_assoc] at hd
 obtain ⟨a1, d1⟩ := strR_fwd h8 h1 hd
 obtain ⟨a2, d2⟩ := zy5 h8 h3.1 h3.2 d1
 obtain ⟨a3, d3⟩ := strR_fwd h8 h2 d2
 obtain ⟨a4, d4⟩ := zy5 h8 h4.1 h4.2 d3
 obtain ⟨a5, d5⟩ := zy5 h8 h5.1 h5.2 d4
 refine ⟨?_, hd2⟩
 simp only [zh2]
 rw [a1]; simp only
 rw [a2]; simp only
 rw [a3]; simp only
 rw [a4]; simp only
 rw [a5]; simp only
 rw [hc]
 simp only [List.length_append]
 congr 2
 omega
theorem steps_fwd {s : ByteArray} {L : List Nd} {q : Nat} {r : List UInt8} (h8 : s.size ≤ 8000) (hL : ∀ n ∈ L, okN n) (hd : (by_ s).drop q = cat (L.flatMap zc4) ++ r) : ∀ j, j ≤ L.length → steps s (q : Int) j = ⟨L.take j, ((q + (cat ((L.take j).flatMap zc4)).length : Nat) : Int), none⟩ := by
 intro j
 induction j with
 | zero => intro _; simp [steps, cat]
 | succ j ih =>
  intro hj
  have hlt : j < L.length := by omega
  have i1 := ih (by omega)
  have e1 : L.take (j + 1) = L.take j ++ [L[j]] := List.take_succ_eq_append_getElem hlt
  have e2 : L = L.take j ++ L[j] :: L.drop (j + 1) := by rw [← List.drop_eq_getElem_cons hlt, List.take_append_drop]
  have hd2 : (by_ s).drop (q + (cat ((L.take j).flatMap zc4)).length) = cat (zc4 L[j]) ++ (cat ((L.drop (j + 1)).flatMap zc4) ++ r) := by
   have e3 : cat (L.flatMap zc4) = cat ((L.take j).flatMap zc4) ++ (cat (zc4 L[j]) ++ cat ((L.drop (j + 1)).flatMap zc4)) := by
    have := congrArg (fun M => cat (M.flatMap zc4)) e2
    simp only [List.flatMap_append, List.flatMap_cons, zo5] at this
    exact this
   rw [← List.drop_drop, hd, e3, List.append_assoc, List.append_assoc, List.drop_left]
  obtain ⟨a1, -⟩ := nodeR_fwd h8 (hL _ (List.getElem_mem hlt)) hd2
  simp only [steps]
  rw [i1]
  simp only
  rw [a1, e1]
  simp only [List.flatMap_append, zo5, List.length_append, List.flatMap_cons, List.flatMap_nil, List.append_nil]
  congr 2
  omega
theorem okN_right {n : Nd} (h : zc1 n = true) : okN n := by
 have h1 := zk7 (zf9 h).1
 obtain ⟨h2, h3, h4, h5⟩ := zl3 h
 refine ⟨by omega, by omega, ?_, by omega, by omega⟩
 unfold zl6 at h5
 split at h5
 ·omega
 ·split at h5
  ·omega
  ·split at h5
   ·omega
   ·cases h5
theorem treeR_fwd {L : List Nd} (h : zb1 L = true) (h8 : (zb4 L).size ≤ 8000) : zg8 (zb4 L) = some L := by
 have hb : by_ (zb4 L) = by_ (num L.length) ++ cat (L.flatMap zc4) := by
  unfold zb4
  rw [by_mk]
  simp [zj2, cat, by_]
 have h0 := h
 simp only [zb1, Bool.and_eq_true, decide_eq_true_eq] at h0
 have hn : ∀ n ∈ L, okN n := fun n hn => okN_right (goI_all L _ _ h0.2 n hn)
 have hg := zs8 (s := zb4 L) (n := (L.length : Int)) (p := 0) (r := cat (L.flatMap zc4)) h8 (by omega) (by omega) (by rw [List.drop_zero, hb, zv2])
 rw [Nat.zero_add] at hg
 have hd : (by_ (zb4 L)).drop (enc (fold (L.length : Int))).length = cat (L.flatMap zc4) ++ [] := by
  rw [hb, zv2, List.drop_left, List.append_nil]
 have hs := steps_fwd h8 hn hd L.length (Nat.le_refl _)
 rw [List.take_length] at hs
 have hg' : za0 (zb4 L) 0 = ((L.length : Int), ((enc (fold (L.length : Int))).length : Int), 0) := hg
 rw [zz9 hg' h0.1 (by rw [hs]), hs, if_pos]
 show zd7 L = zb4 L
 rw [zd7, if_pos h, if_neg (by omega)]
end Pl
end Go.Proofs.YtioildojmckepaaGreatDoor

namespace Go.Proofs.YtioildojmckepaaGreatDoor
namespace Pl
theorem cat_item (x : Int × List Nd) : cat (zc2 x) = by_ (num x.1) ++ by_ (zc6.put (zb4 x.2)) := by
 simp [cat, zc2, by_]
theorem itemR_fwd {s : ByteArray} {x : Int × List Nd} {p : Nat} {r : List UInt8} (h8 : s.size ≤ 8000) (h1 : 0 ≤ x.1) (h2 : x.1 ≤ 4) (ht : zb1 x.2 = true) (hd : (by_ s).drop p = cat (zc2 x) ++ r) : zf7 s (p : Int) none = ⟨x, ((p + (cat (zc2 x)).length : Nat) : Int), none⟩ ∧ (by_ s).drop (p + (cat (zc2 x)).length) = r := by
 have hc := cat_item x
 have hd2 : (by_ s).drop (p + (cat (zc2 x)).length) = r := by rw [← List.drop_drop, hd, List.drop_left]
 rw [hc] at hd
 simp only [List.append_assoc] at hd
 have h8t := zl8 ht
 obtain ⟨a1, d1⟩ := zy5 h8 (by omega) (by omega) hd
 obtain ⟨a2, d2⟩ := strR_fwd h8 h8t d1
 have hr : ze0 (zb4 x.2) = (x.2, 0) := zt3 (by omega) (treeR_fwd ht h8t)
 refine ⟨?_, hd2⟩
 simp only [zf7]
 rw [a1]; simp only
 rw [a2]; simp only
 rw [hr]; simp only [if_true]
 rw [hc]
 simp only [List.length_append]
 congr 2
 omega
theorem stepsI_fwd {s : ByteArray} {L : List (Int × List Nd)} {q : Nat} {r : List UInt8} (h8 : s.size ≤ 8000) (hL : ∀ x ∈ L, 0 ≤ x.1 ∧ x.1 ≤ 4 ∧ zb1 x.2 = true) (hd : (by_ s).drop q = cat (L.flatMap zc2) ++ r) : ∀ j, j ≤ L.length → za1 s (q : Int) j = ⟨L.take j, ((q + (cat ((L.take j).flatMap zc2)).length : Nat) : Int), none⟩ := by
 intro j
 induction j with
 | zero => intro _; simp [za1, cat]
 | succ j ih =>
  intro hj
  have hlt : j < L.length := by omega
  have i1 := ih (by omega)
  have e1 : L.take (j + 1) = L.take j ++ [L[j]] := List.take_succ_eq_append_getElem hlt
  have e2 : L = L.take j ++ L[j] :: L.drop (j + 1) := by rw [← List.drop_eq_getElem_cons hlt, List.take_append_drop]
  have hd2 : (by_ s).drop (q + (cat ((L.take j).flatMap zc2)).length) = cat (zc2 L[j]) ++ (cat ((L.drop (j + 1)).flatMap zc2) ++ r) := by
   have e3 : cat (L.flatMap zc2) = cat ((L.take j).flatMap zc2) ++ (cat (zc2 L[j]) ++ cat ((L.drop (j + 1)).flatMap zc2)) := by
    have := congrArg (fun M => cat (M.flatMap zc2)) e2
    simp only [List.flatMap_append, List.flatMap_cons, zo5] at this
    exact this
   rw [← List.drop_drop, hd, e3, List.append_assoc, List.append_assoc, List.drop_left]
  have hx := hL _ (List.getElem_mem hlt)
  obtain ⟨a1, -⟩ := itemR_fwd h8 hx.1 hx.2.1 hx.2.2 hd2
  simp only [za1]
  rw [i1]
  simp only
  rw [a1, e1]
  simp only [List.flatMap_append, zo5, List.length_append, List.flatMap_cons, List.flatMap_nil, List.append_nil]
  congr 2
  omega
theorem nestR_fwd {xs : List (Int × List Nd)} {k : Fo} (h : nest (rowO xs) = some k) (h8 : (ze7 xs).size ≤ 8000) : zh1 (ze7 xs) = some xs := by
 have hb : by_ (ze7 xs) = by_ (num xs.length) ++ cat (xs.flatMap zc2) := by
  unfold ze7
  rw [by_mk]
  simp [cat, by_]
 have h12 := nest_12 h
 have hn : ∀ x ∈ xs, 0 ≤ x.1 ∧ x.1 ≤ 4 ∧ zb1 x.2 = true := fun x hx => by
  obtain ⟨i, hi⟩ := List.getElem?_of_mem hx
  exact zp1 h hi
 have hg := zs8 (s := ze7 xs) (n := (xs.length : Int)) (p := 0) (r := cat (xs.flatMap zc2)) h8 (by omega) (by omega) (by rw [List.drop_zero, hb, zv2])
 rw [Nat.zero_add] at hg
 have hd : (by_ (ze7 xs)).drop (enc (fold (xs.length : Int))).length = cat (xs.flatMap zc2) ++ [] := by
  rw [hb, zv2, List.drop_left, List.append_nil]
 have hs := stepsI_fwd h8 hn hd xs.length (Nat.le_refl _)
 rw [List.take_length] at hs
 have hg' : za0 (ze7 xs) 0 = ((xs.length : Int), ((enc (fold (xs.length : Int))).length : Int), 0) := hg
 rw [yb6 h8 hg' h12 (by rw [hs]), hs, if_pos]
 show zb3 xs = ze7 xs
 rw [zb3, if_pos (by rw [h]; rfl), if_neg (by omega)]
theorem nestRO_fwd {xs : List (Int × List Nd)} (h : ¬ zb3 xs = ⟨#[]⟩) : ze2 (zb3 xs) = (xs, 0) := by
 unfold zb3 at h ⊢
 split at h
 ·rename_i hs
  rw [if_pos hs]
  split at h
  ·exact absurd rfl h
  ·rename_i h8
   rw [if_neg h8]
   obtain ⟨k, hk⟩ := Option.isSome_iff_exists.1 hs
   unfold ze2
   rw [if_neg h8, nestR_fwd hk (by omega)]
 ·exact absurd rfl h
theorem yc1 {s : ByteArray} (h : (ze2 s).2 = 0) : zb3 (ze2 s).1 = s ∧ (nest (rowO (ze2 s).1)).isSome = true := by
 unfold ze2 at h ⊢
 by_cases h8 : 8000 < s.size
 ·rw [if_pos h8] at h; cases h
 ·rw [if_neg h8] at h ⊢
  cases hr : zh1 s with
  | none => rw [hr] at h; cases h
  | some L =>
   simp only
   have hr0 := hr
   unfold zh1 at hr
   split at hr
   ·rename_i hc
    split at hr
    ·rename_i hd
     cases hr
     obtain ⟨p, q, e1, e2, h1, h2, -⟩ := zi6 hc.1
     have hg : za0 s 0 = (((za0 s 0).1.toNat : Int), (q : Int), 0) := Prod.ext (by simp only; omega) (Prod.ext e2 hc.1)
     rw [e2] at hd ⊢
     exact ⟨(ye1 (by omega) hg hd.1).1 hd.2, hd.2.2⟩
    ·cases hr
   ·cases hr
theorem nestRO_ok (s : ByteArray) : (ze2 s).1.length ≤ 12 ∧ ∀ x ∈ (ze2 s).1, zb1 x.2 = true := by
 by_cases h : (ze2 s).2 = 0
 ·obtain ⟨k, hk⟩ := Option.isSome_iff_exists.1 (yc1 h).2
  exact ⟨nest_12 hk, fun x hx => by
   obtain ⟨i, hi⟩ := List.getElem?_of_mem hx
   exact (zp1 hk hi).2.2⟩
 ·unfold ze2 at h ⊢
  by_cases h8 : 8000 < s.size
  ·rw [if_pos h8]; exact ⟨by simp, fun x hx => (by cases hx)⟩
  ·rw [if_neg h8] at h ⊢
   cases hr : zh1 s with
   | none => exact ⟨by simp, fun x hx => (by cases hx)⟩
   | some L => rw [hr] at h; exact absurd rfl h
theorem level_depth (k : Fo) : k.level ≤ k.depth := by
 induction k with
 | nil => exact Nat.le_refl _
 | cons a b ih _ => simp only [Fo.level, Fo.depth]; omega
theorem first_is {xs : List (Int × List Nd)} {k : Fo} (h : nest (rowO xs) = some k) : k.level < xs.length ∧ (∃ L, xs[k.level]? = some (0, L)) ∧ (k.level : Int) < (k.depth : Int) + 1 ∧ 1 ≤ (k.leaves : Int) := by
 have h1 := (yd3 h).2
 have hlt := (List.getElem?_eq_some_iff.1 h1).1
 rw [zi7] at hlt
 refine ⟨hlt, ?_, by have := level_depth k; omega, by unfold Fo.leaves; omega⟩
 have hx : xs[k.level]? = some xs[k.level] := List.getElem?_eq_getElem hlt
 have h2 : (rowO xs)[k.level]? = some (zh7 xs[k.level]) := by unfold rowO; rw [List.getElem?_map, hx]; rfl
 rw [h2] at h1
 have h3 := (zp3 (Option.some.inj h1)).1
 exact ⟨xs[k.level].2, by rw [hx]; exact congrArg some (Prod.ext h3 rfl)⟩
end Pl
end Go.Proofs.YtioildojmckepaaGreatDoor

