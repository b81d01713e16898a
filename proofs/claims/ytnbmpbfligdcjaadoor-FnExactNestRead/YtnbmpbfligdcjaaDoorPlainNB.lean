/- The bytes of a nest, plain: a right tree has few bytes. -/
import Derived.Test.YtnbmpbfligdcjaaDoorWBytesI
import Derived.Test.YtnbmpbfligdcjaaDoorG04
namespace Go.Proofs.YtnbmpbfligdcjaaDoor
namespace Pl
theorem num_one {n : Int} (h1 : 0 ≤ n) (h2 : n < 64) : (num n).size ≤ 1 := by
  have e := fold_pos h1
  show (enc (fold n)).toArray.size ≤ 1
  rw [enc_small (by omega)]; simp
theorem num_four {n : Int} (h1 : 0 ≤ n) (h2 : n ≤ 1000000) : (num n).size ≤ 4 := by
  have e := fold_pos h1
  have h := enc_length_le 3 (fold n) (by omega)
  show (enc (fold n)).toArray.size ≤ 4
  simpa using h
theorem put_three {s : ByteArray} (h : s.size ≤ 200) : (WText.put s).size ≤ s.size + 3 := by
  rw [WText.put_short (by omega)]
  have e := fold_pos (n := (s.size : Int)) (by omega)
  have h := enc_length_le 2 (fold s.size) (by omega)
  show (enc (fold s.size) ++ s.data.toList).toArray.size ≤ s.size + 3
  have e : s.data.toList.length = s.size := Array.length_toList
  simp only [List.size_toArray, List.length_append, e]
  omega
theorem put_one {s : ByteArray} (h : s.size ≤ 60) : (WText.put s).size ≤ s.size + 1 := by
  rw [WText.put_short (by omega)]
  have e := fold_pos (n := (s.size : Int)) (by omega)
  rw [enc_small (by omega)]
  have e : s.data.toList.length = s.size := Array.length_toList
  show ([_] ++ s.data.toList).toArray.size ≤ s.size + 1
  simp only [List.size_toArray, List.length_append, e, List.length_cons, List.length_nil]
  omega
theorem path_126 {p : ByteArray} (h : pathB p = true) : p.size ≤ 126 := by
  obtain ⟨h1, h2⟩ := pathB_all h
  have h3 := glue_size (names p) (fun t ht => (name_free (h1 t ht)).2.2.2)
  rw [glue_names] at h3
  omega
theorem node_196 {n : Nd} (h : nodeB n = true) : tot (nodeP n) ≤ 196 := by
  obtain ⟨hd, ht, hm, hk⟩ := node_bounds h
  have hp := path_126 (node_right h).1
  have hkk := kind_range hk
  have a1 := put_three (s := n.path) (by omega)
  have a2 := num_one (n := n.kind) (by omega) (by omega)
  have a3 := put_one (s := n.data) (by omega)
  have a4 := num_four (n := n.time) (by omega) (by omega)
  have a5 := num_one (n := n.mark) (by omega) (by omega)
  simp only [tot, nodeP, List.map_cons, List.map_nil, List.sum_cons, List.sum_nil]
  omega
theorem flat_196 (L : List Nd) (h : ∀ n ∈ L, nodeB n = true) : tot (L.flatMap nodeP) ≤ 196 * L.length := by
  induction L with
  | nil => simp [tot]
  | cons n L ih =>
    rw [List.flatMap_cons, tot_app]
    have h1 := node_196 (h n (List.mem_cons_self))
    have h2 := ih (fun m hm => h m (List.mem_cons_of_mem _ hm))
    simp only [List.length_cons]
    omega
theorem bytesT_small {L : List Nd} (h : treeB L = true) : (bytesT L).size ≤ 8000 := by
  obtain ⟨h40, hn⟩ := tree_parts h
  have h1 := flat_196 L hn
  have h2 := num_one (n := (L.length : Int)) (by omega) (by omega)
  have e : (bytesT L).size = (cat (partsT L)).length := by show (cat (partsT L)).toArray.size = _; simp
  rw [e, cat_length]
  have e2 : tot (partsT L) = (num L.length).size + tot (L.flatMap nodeP) := by simp [tot, partsT]
  omega
theorem treeBytes_right {L : List Nd} (h : treeB L = true) : treeBytes L = bytesT L := by
  unfold treeBytes
  rw [if_pos h, if_neg (by have := bytesT_small h; omega)]
/-- The parts of an item, of a nest. -/
def itemP (x : Int × List Nd) : List ByteArray := [num x.1, WText.put (bytesT x.2)]
def bytesN (xs : List (Int × List Nd)) : ByteArray := ⟨(cat (num xs.length :: xs.flatMap itemP)).toArray⟩
def nestBytes (xs : List (Int × List Nd)) : ByteArray := if (nest (rowO xs)).isSome then (if 8000 < (bytesN xs).size then ⟨#[]⟩ else bytesN xs) else ⟨#[]⟩
def upToN (xs : List (Int × List Nd)) (k : Nat) : ByteArray := ⟨(cat (num xs.length :: (xs.take k).flatMap itemP)).toArray⟩
theorem upToN_zero (xs : List (Int × List Nd)) : upToN xs 0 = num xs.length := by
  apply ByteArray.ext; apply Array.toList_inj.1; simp [upToN, cat]
theorem upToN_end (xs : List (Int × List Nd)) : upToN xs xs.length = bytesN xs := by simp [upToN, bytesN]
theorem upToN_step (xs : List (Int × List Nd)) {x : Int × List Nd} {k : Nat} (h : xs[k]? = some x) : upToN xs (k + 1) = upToN xs k ++ num x.1 ++ WText.put (bytesT x.2) := by
  have h1 := (List.getElem?_eq_some_iff.1 h)
  apply ByteArray.ext
  apply Array.toList_inj.1
  have e : xs.take (k + 1) = xs.take k ++ [x] := by rw [List.take_succ_eq_append_getElem h1.1, h1.2]
  have h2 : (num xs.length :: (xs.take (k + 1)).flatMap itemP) = (num xs.length :: (xs.take k).flatMap itemP) ++ itemP x := by rw [e, List.flatMap_append]; simp
  simp only [upToN, h2, cat_app]
  simp [itemP, cat]
/-- All of a right nest: the numbers are small, the trees are right. -/
theorem nest_items {xs : List (Int × List Nd)} {k : Fo} (h : nest (rowO xs) = some k) {i : Nat} {x : Int × List Nd} (hx : xs[i]? = some x) : 0 ≤ x.1 ∧ x.1 ≤ 4 ∧ treeB x.2 = true := by
  have h1 := nest_nonone h i
  rw [rowO, List.getElem?_map, hx, Option.map_some] at h1
  unfold itemO at h1
  split at h1
  · rename_i hb
    have hr := itemB_range hb
    refine ⟨hr.1, hr.2, ?_⟩
    simp [itemB] at hb
    exact hb.2
  · simp at h1
theorem nest_12 {xs : List (Int × List Nd)} {k : Fo} (h : nest (rowO xs) = some k) : xs.length ≤ 12 := by
  have := (nest_yes h).1
  rw [rowO_len] at this; exact this
theorem put_bytesT {L : List Nd} (h : treeB L = true) : (WText.put (bytesT L)).size ≤ 8011 := by
  have h1 := bytesT_small h
  have h2 := put_size (s := bytesT L) h1
  omega
end Pl
end Go.Proofs.YtnbmpbfligdcjaaDoor
