import Derived.Test.YtfdbokipgofcdaaGreatDoorWBytesI
import Derived.Test.YtfdbokipgofcdaaGreatDoorG01
namespace Go.Proofs.YtfdbokipgofcdaaGreatDoor
namespace Pl
theorem num_one {n : Int} (h1 : 0 ≤ n) (h2 : n < 64) : (num n).size ≤ 1 := by
 have e := zq9 h1
 show (enc (fold n)).toArray.size ≤ 1
 rw [zm2 (by omega)]; simp
theorem num_four {n : Int} (h1 : 0 ≤ n) (h2 : n ≤ 1000000) : (num n).size ≤ 4 := by
 have e := zq9 h1
 have h := zo1 3 (fold n) (by omega)
 show (enc (fold n)).toArray.size ≤ 4
 simpa using h
theorem put_three {s : ByteArray} (h : s.size ≤ 200) : (zd6.put s).size ≤ s.size + 3 := by
 rw [zd6.zt1 (by omega)]
 have e := zq9 (n := (s.size : Int)) (by omega)
 have h := zo1 2 (fold s.size) (by omega)
 show (enc (fold s.size) ++ s.data.toList).toArray.size ≤ s.size + 3
 have e : s.data.toList.length = s.size := Array.length_toList
 simp only [List.size_toArray, List.length_append, e]
 omega
theorem put_one {s : ByteArray} (h : s.size ≤ 60) : (zd6.put s).size ≤ s.size + 1 := by
 rw [zd6.zt1 (by omega)]
 have e := zq9 (n := (s.size : Int)) (by omega)
 rw [zm2 (by omega)]
 have e : s.data.toList.length = s.size := Array.length_toList
 show ([_] ++ s.data.toList).toArray.size ≤ s.size + 1
 simp only [List.size_toArray, List.length_append, e, List.length_cons, List.length_nil]
 omega
theorem path_126 {p : ByteArray} (h : za5 p = true) : p.size ≤ 126 := by
 obtain ⟨h1, h2⟩ := yo9 h
 have h3 := yb4 (names p) (fun t ht => (zu0 (h1 t ht)).2.2.2)
 rw [zp7] at h3
 omega
theorem node_196 {n : Nd} (h : zb6 n = true) : tot (zd5 n) ≤ 196 := by
 obtain ⟨hd, ht, hm, hk⟩ := zh3 h
 have hp := path_126 (ze2 h).1
 have hkk := yd9 hk
 have a1 := put_three (s := n.path) (by omega)
 have a2 := num_one (n := n.kind) (by omega) (by omega)
 have a3 := put_one (s := n.data) (by omega)
 have a4 := num_four (n := n.time) (by omega) (by omega)
 have a5 := num_one (n := n.mark) (by omega) (by omega)
 simp only [tot, zd5, List.map_cons, List.map_nil, List.sum_cons, List.sum_nil]
 omega
theorem flat_196 (L : List Nd) (h : ∀ n ∈ L, zb6 n = true) : tot (L.flatMap zd5) ≤ 196 * L.length := by
 induction L with
 | nil => simp [tot]
 | cons n L ih =>
  rw [List.flatMap_cons, tot_app]
  have h1 := node_196 (h n (List.mem_cons_self))
  have h2 := ih (fun m hm => h m (List.mem_cons_of_mem _ hm))
  simp only [List.length_cons]
  omega
theorem zt6 {L : List Nd} (h : za2 L = true) : (zc6 L).size ≤ 8000 := by
 obtain ⟨h40, hn⟩ := zu1 h
 have h1 := flat_196 L hn
 have h2 := num_one (n := (L.length : Int)) (by omega) (by omega)
 have e : (zc6 L).size = (cat (zn2 L)).length := by show (cat (zn2 L)).toArray.size = _; simp
 rw [e, ye4]
 have e2 : tot (zn2 L) = (num L.length).size + tot (L.flatMap zd5) := by simp [tot, zn2]
 omega
theorem zs5 {L : List Nd} (h : za2 L = true) : zf7 L = zc6 L := by
 unfold zf7
 rw [if_pos h, if_neg (by have := zt6 h; omega)]
def zd3 (x : Int × List Nd) : List ByteArray := [num x.1, zd6.put (zc6 x.2)]
def zh (xs : List (Int × List Nd)) : ByteArray := ⟨(cat (num xs.length :: xs.flatMap zd3)).toArray⟩
def zc4 (xs : List (Int × List Nd)) : ByteArray := if (nest (rowO xs)).isSome then (if 8000 < (zh xs).size then ⟨#[]⟩ else zh xs) else ⟨#[]⟩
def ya4 (xs : List (Int × List Nd)) (k : Nat) : ByteArray := ⟨(cat (num xs.length :: (xs.take k).flatMap zd3)).toArray⟩
theorem upToN_zero (xs : List (Int × List Nd)) : ya4 xs 0 = num xs.length := by
 apply ByteArray.ext; apply Array.toList_inj.1; simp [ya4, cat]
theorem upToN_end (xs : List (Int × List Nd)) : ya4 xs xs.length = zh xs := by simp [ya4, zh]
theorem upToN_step (xs : List (Int × List Nd)) {x : Int × List Nd} {k : Nat} (h : xs[k]? = some x) : ya4 xs (k + 1) = ya4 xs k ++ num x.1 ++ zd6.put (zc6 x.2) := by
 have h1 := (List.getElem?_eq_some_iff.1 h)
 apply ByteArray.ext
 apply Array.toList_inj.1
 have e : xs.take (k + 1) = xs.take k ++ [x] := by rw [List.take_succ_eq_append_getElem h1.1, h1.2]
 have h2 : (num xs.length :: (xs.take (k + 1)).flatMap zd3) = (num xs.length :: (xs.take k).flatMap zd3) ++ zd3 x := by rw [e, List.flatMap_append]; simp
 simp only [ya4, h2, zx7]
 simp [zd3, cat]
theorem zz0 {xs : List (Int × List Nd)} {k : Fo} (h : nest (rowO xs) = some k) {i : Nat} {x : Int × List Nd} (hx : xs[i]? = some x) : 0 ≤ x.1 ∧ x.1 ≤ 4 ∧ za2 x.2 = true := by
 have h1 := yt6 h i
 rw [rowO, List.getElem?_map, hx, Option.map_some] at h1
 unfold zi at h1
 split at h1
 ·rename_i hb
  have hr := zw hb
  refine ⟨hr.1, hr.2, ?_⟩
  simp [zf9] at hb
  exact hb.2
 ·simp at h1
theorem nest_12 {xs : List (Int × List Nd)} {k : Fo} (h : nest (rowO xs) = some k) : xs.length ≤ 12 := by
 have := (zl5 h).1
 rw [zi5] at this; exact this
theorem yw1 {L : List Nd} (h : za2 L = true) : (zd6.put (zc6 L)).size ≤ 8011 := by
 have h1 := zt6 h
 have h2 := yh5 (s := zc6 L) h1
 omega
end Pl
end Go.Proofs.YtfdbokipgofcdaaGreatDoor
