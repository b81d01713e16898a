import Derived.Test.YtioildojmckepaaGreatDoorWBytesI
import Derived.Test.YtioildojmckepaaGreatDoorG02
namespace Go.Proofs.YtioildojmckepaaGreatDoor
namespace Pl
theorem num_one {n : Int} (h1 : 0 ≤ n) (h2 : n < 64) : (num n).size ≤ 1 := by
 have e := zl h1
 show (enc (fold n)).toArray.size ≤ 1
 rw [zi2 (by omega)]; simp
theorem num_four {n : Int} (h1 : 0 ≤ n) (h2 : n ≤ 1000000) : (num n).size ≤ 4 := by
 have e := zl h1
 have h := zj5 3 (fold n) (by omega)
 show (enc (fold n)).toArray.size ≤ 4
 simpa using h
theorem put_three {s : ByteArray} (h : s.size ≤ 200) : (zc6.put s).size ≤ s.size + 3 := by
 rw [zc6.zm1 (by omega)]
 have e := zl (n := (s.size : Int)) (by omega)
 have h := zj5 2 (fold s.size) (by omega)
 show (enc (fold s.size) ++ s.data.toList).toArray.size ≤ s.size + 3
 have e : s.data.toList.length = s.size := Array.length_toList
 simp only [List.size_toArray, List.length_append, e]
 omega
theorem put_one {s : ByteArray} (h : s.size ≤ 60) : (zc6.put s).size ≤ s.size + 1 := by
 rw [zc6.zm1 (by omega)]
 have e := zl (n := (s.size : Int)) (by omega)
 rw [zi2 (by omega)]
 have e : s.data.toList.length = s.size := Array.length_toList
 show ([_] ++ s.data.toList).toArray.size ≤ s.size + 1
 simp only [List.size_toArray, List.length_append, e, List.length_cons, List.length_nil]
 omega
theorem path_126 {p : ByteArray} (h : zb2 p = true) : p.size ≤ 126 := by
 obtain ⟨h1, h2⟩ := yb2 h
 have h3 := zw3 (names p) (fun t ht => (zo1 (h1 t ht)).2.2.2)
 rw [yd5] at h3
 omega
theorem node_196 {n : Nd} (h : zc1 n = true) : tot (zc4 n) ≤ 196 := by
 obtain ⟨hd, ht, hm, hk⟩ := zl3 h
 have hp := path_126 (zf9 h).1
 have hkk := zt6 hk
 have a1 := put_three (s := n.path) (by omega)
 have a2 := num_one (n := n.kind) (by omega) (by omega)
 have a3 := put_one (s := n.data) (by omega)
 have a4 := num_four (n := n.time) (by omega) (by omega)
 have a5 := num_one (n := n.mark) (by omega) (by omega)
 simp only [tot, zc4, List.map_cons, List.map_nil, List.sum_cons, List.sum_nil]
 omega
theorem flat_196 (L : List Nd) (h : ∀ n ∈ L, zc1 n = true) : tot (L.flatMap zc4) ≤ 196 * L.length := by
 induction L with
 | nil => simp [tot]
 | cons n L ih =>
  rw [List.flatMap_cons, tot_app]
  have h1 := node_196 (h n (List.mem_cons_self))
  have h2 := ih (fun m hm => h m (List.mem_cons_of_mem _ hm))
  simp only [List.length_cons]
  omega
theorem zl8 {L : List Nd} (h : zb1 L = true) : (zb4 L).size ≤ 8000 := by
 obtain ⟨h40, hn⟩ := zn3 h
 have h1 := flat_196 L hn
 have h2 := num_one (n := (L.length : Int)) (by omega) (by omega)
 have e : (zb4 L).size = (cat (zj2 L)).length := by show (cat (zj2 L)).toArray.size = _; simp
 rw [e, zt7]
 have e2 : tot (zj2 L) = (num L.length).size + tot (L.flatMap zc4) := by simp [tot, zj2]
 omega
theorem zl4 {L : List Nd} (h : zb1 L = true) : zd7 L = zb4 L := by
 unfold zd7
 rw [if_pos h, if_neg (by have := zl8 h; omega)]
def zc2 (x : Int × List Nd) : List ByteArray := [num x.1, zc6.put (zb4 x.2)]
def ze7 (xs : List (Int × List Nd)) : ByteArray := ⟨(cat (num xs.length :: xs.flatMap zc2)).toArray⟩
def zb3 (xs : List (Int × List Nd)) : ByteArray := if (nest (rowO xs)).isSome then (if 8000 < (ze7 xs).size then ⟨#[]⟩ else ze7 xs) else ⟨#[]⟩
def zq4 (xs : List (Int × List Nd)) (k : Nat) : ByteArray := ⟨(cat (num xs.length :: (xs.take k).flatMap zc2)).toArray⟩
theorem upToN_zero (xs : List (Int × List Nd)) : zq4 xs 0 = num xs.length := by
 apply ByteArray.ext; apply Array.toList_inj.1; simp [zq4, cat]
theorem upToN_end (xs : List (Int × List Nd)) : zq4 xs xs.length = ze7 xs := by simp [zq4, ze7]
theorem upToN_step (xs : List (Int × List Nd)) {x : Int × List Nd} {k : Nat} (h : xs[k]? = some x) : zq4 xs (k + 1) = zq4 xs k ++ num x.1 ++ zc6.put (zb4 x.2) := by
 have h1 := (List.getElem?_eq_some_iff.1 h)
 apply ByteArray.ext
 apply Array.toList_inj.1
 have e : xs.take (k + 1) = xs.take k ++ [x] := by rw [List.take_succ_eq_append_getElem h1.1, h1.2]
 have h2 : (num xs.length :: (xs.take (k + 1)).flatMap zc2) = (num xs.length :: (xs.take k).flatMap zc2) ++ zc2 x := by rw [e, List.flatMap_append]; simp
 simp only [zq4, h2, zo5]
 simp [zc2, cat]
theorem zp1 {xs : List (Int × List Nd)} {k : Fo} (h : nest (rowO xs) = some k) {i : Nat} {x : Int × List Nd} (hx : xs[i]? = some x) : 0 ≤ x.1 ∧ x.1 ≤ 4 ∧ zb1 x.2 = true := by
 have h1 := yc2 h i
 rw [rowO, List.getElem?_map, hx, Option.map_some] at h1
 unfold zh7 at h1
 split at h1
 ·rename_i hb
  have hr := zq6 hb
  refine ⟨hr.1, hr.2, ?_⟩
  simp [zi5] at hb
  exact hb.2
 ·simp at h1
theorem nest_12 {xs : List (Int × List Nd)} {k : Fo} (h : nest (rowO xs) = some k) : xs.length ≤ 12 := by
 have := (zm0 h).1
 rw [zi7] at this; exact this
theorem ye7 {L : List Nd} (h : zb1 L = true) : (zc6.put (zb4 L)).size ≤ 8011 := by
 have h1 := zl8 h
 have h2 := zv3 (s := zb4 L) h1
 omega
end Pl
end Go.Proofs.YtioildojmckepaaGreatDoor
