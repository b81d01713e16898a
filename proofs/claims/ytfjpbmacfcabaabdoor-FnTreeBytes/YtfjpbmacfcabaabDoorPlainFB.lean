/- Plain facts of the law FnTreeBytes: a right tree is read back from its bytes. No program in sight. -/
import Derived.Test.YtfjpbmacfcabaabDoorPlainRead
import Derived.Test.YtfjpbmacfcabaabDoorPlainFwd
namespace Go.Proofs.YtfjpbmacfcabaabDoor
namespace Pl
theorem getText_fwd' {s u : ByteArray} {p : Nat} {r : List UInt8} (h8 : s.size ≤ 8000) (hu : u.size ≤ 8000) (hd : (by_ s).drop p = enc (fold (u.size : Int)) ++ (by_ u ++ r)) : getText s (p : Int) = (u, ((p + (enc (fold (u.size : Int))).length + u.size : Nat) : Int), 0) := by
  have hn := getNum_fwd (n := (u.size : Int)) h8 (by omega) (by omega) hd
  have hl : (by_ s).length - p = (enc (fold (u.size : Int))).length + (u.size + r.length) := by rw [← List.length_drop, hd, List.length_append, List.length_append, by_length]
  rw [by_length] at hl
  have hlen := (num_len (n := (u.size : Int)) (by omega) (by omega)).1
  unfold getText
  rw [hn]
  simp only [ne_eq, not_true_eq_false, if_false, Int.toNat_natCast]
  rw [if_neg (by omega), if_neg (by omega)]
  refine Prod.ext (by_inj ?_) (Prod.ext (by simp only; omega) rfl)
  simp only
  rw [by_extract, ← List.drop_drop, hd, List.drop_left, show p + (enc (fold (u.size : Int))).length + u.size - (p + (enc (fold (u.size : Int))).length) = u.size by omega, ← by_length, List.take_left]
theorem by_put {u : ByteArray} (hu : u.size ≤ 8000) : by_ (WText.put u) = enc (fold (u.size : Int)) ++ by_ u := by
  rw [WText.put_short (by omega), by_mk]; rfl
theorem by_num (n : Int) : by_ (num n) = enc (fold n) := by_mk _
theorem strR_fwd {s u : ByteArray} {p : Nat} {r : List UInt8} (h8 : s.size ≤ 8000) (hu : u.size ≤ 8000) (hd : (by_ s).drop p = by_ (WText.put u) ++ r) : strR s (p : Int) none = (u, ((p + (by_ (WText.put u)).length : Nat) : Int), none) ∧ (by_ s).drop (p + (by_ (WText.put u)).length) = r := by
  have e := by_put hu
  rw [e, List.append_assoc] at hd
  have h := getText_fwd' h8 hu hd
  have hl : (by_ (WText.put u)).length = (enc (fold (u.size : Int))).length + u.size := by rw [e, List.length_append, by_length]
  refine ⟨?_, ?_⟩
  · simp only [strR]
    rw [h, if_pos rfl, hl, Nat.add_assoc]
  · rw [← List.drop_drop, hd, ← List.append_assoc, ← e, List.drop_left]
theorem numR_fwd {s : ByteArray} {n : Int} {p : Nat} {r : List UInt8} (h8 : s.size ≤ 8000) (h1 : -9223372036854775808 ≤ n) (h2 : n ≤ 9223372036854775807) (hd : (by_ s).drop p = by_ (num n) ++ r) : numR s (p : Int) none = (n, ((p + (by_ (num n)).length : Nat) : Int), none) ∧ (by_ s).drop (p + (by_ (num n)).length) = r := by
  rw [by_num] at hd
  have h := getNum_fwd h8 h1 h2 hd
  refine ⟨?_, ?_⟩
  · simp only [numR]
    rw [h, if_pos rfl, by_num]
  · rw [← List.drop_drop, hd, by_num, List.drop_left]
def okN (n : Nd) : Prop := n.path.size ≤ 8000 ∧ n.data.size ≤ 8000 ∧ (-9223372036854775808 ≤ n.kind ∧ n.kind ≤ 9223372036854775807) ∧ (-9223372036854775808 ≤ n.time ∧ n.time ≤ 9223372036854775807) ∧ (-9223372036854775808 ≤ n.mark ∧ n.mark ≤ 9223372036854775807)
theorem cat_node (n : Nd) : cat (nodeP n) = by_ (WText.put n.path) ++ (by_ (num n.kind) ++ (by_ (WText.put n.data) ++ (by_ (num n.time) ++ by_ (num n.mark)))) := by
  simp [cat, nodeP, by_]
theorem nodeR_fwd {s : ByteArray} {n : Nd} {p : Nat} {r : List UInt8} (h8 : s.size ≤ 8000) (hn : okN n) (hd : (by_ s).drop p = cat (nodeP n) ++ r) : nodeR s (p : Int) none = ⟨n, ((p + (cat (nodeP n)).length : Nat) : Int), none⟩ ∧ (by_ s).drop (p + (cat (nodeP n)).length) = r := by
  obtain ⟨h1, h2, h3, h4, h5⟩ := hn
  have hc := cat_node n
  have hd2 : (by_ s).drop (p + (cat (nodeP n)).length) = r := by rw [← List.drop_drop, hd, List.drop_left]
  rw [hc] at hd
  simp only [List.append_assoc] at hd
  obtain ⟨a1, d1⟩ := strR_fwd h8 h1 hd
  obtain ⟨a2, d2⟩ := numR_fwd h8 h3.1 h3.2 d1
  obtain ⟨a3, d3⟩ := strR_fwd h8 h2 d2
  obtain ⟨a4, d4⟩ := numR_fwd h8 h4.1 h4.2 d3
  obtain ⟨a5, d5⟩ := numR_fwd h8 h5.1 h5.2 d4
  refine ⟨?_, hd2⟩
  simp only [nodeR]
  rw [a1]; simp only
  rw [a2]; simp only
  rw [a3]; simp only
  rw [a4]; simp only
  rw [a5]; simp only
  rw [hc]
  simp only [List.length_append]
  congr 2
  omega
theorem steps_fwd {s : ByteArray} {L : List Nd} {q : Nat} {r : List UInt8} (h8 : s.size ≤ 8000) (hL : ∀ n ∈ L, okN n) (hd : (by_ s).drop q = cat (L.flatMap nodeP) ++ r) : ∀ j, j ≤ L.length → steps s (q : Int) j = ⟨L.take j, ((q + (cat ((L.take j).flatMap nodeP)).length : Nat) : Int), none⟩ := by
  intro j
  induction j with
  | zero => intro _; simp [steps, cat]
  | succ j ih =>
    intro hj
    have hlt : j < L.length := by omega
    have i1 := ih (by omega)
    have e1 : L.take (j + 1) = L.take j ++ [L[j]] := List.take_succ_eq_append_getElem hlt
    have e2 : L = L.take j ++ L[j] :: L.drop (j + 1) := by rw [← List.drop_eq_getElem_cons hlt, List.take_append_drop]
    have hd2 : (by_ s).drop (q + (cat ((L.take j).flatMap nodeP)).length) = cat (nodeP L[j]) ++ (cat ((L.drop (j + 1)).flatMap nodeP) ++ r) := by
      have e3 : cat (L.flatMap nodeP) = cat ((L.take j).flatMap nodeP) ++ (cat (nodeP L[j]) ++ cat ((L.drop (j + 1)).flatMap nodeP)) := by
        have := congrArg (fun M => cat (M.flatMap nodeP)) e2
        simp only [List.flatMap_append, List.flatMap_cons, cat_app] at this
        exact this
      rw [← List.drop_drop, hd, e3, List.append_assoc, List.append_assoc, List.drop_left]
    obtain ⟨a1, -⟩ := nodeR_fwd h8 (hL _ (List.getElem_mem hlt)) hd2
    simp only [steps]
    rw [i1]
    simp only
    rw [a1, e1]
    simp only [List.flatMap_append, cat_app, List.length_append, List.flatMap_cons, List.flatMap_nil, List.append_nil]
    congr 2
    omega
theorem okN_right {n : Nd} (h : nodeB n = true) : okN n := by
  have h1 := pathB_le (node_right h).1
  obtain ⟨h2, h3, h4, h5⟩ := node_bounds h
  refine ⟨by omega, by omega, ?_, by omega, by omega⟩
  unfold kindB at h5
  split at h5
  · omega
  · split at h5
    · omega
    · split at h5
      · omega
      · cases h5
/-- A right tree comes back from its bytes. -/
theorem treeR_fwd {L : List Nd} (h : treeB L = true) (h8 : (bytesT L).size ≤ 8000) : treeR (bytesT L) = some L := by
  have hb : by_ (bytesT L) = by_ (num L.length) ++ cat (L.flatMap nodeP) := by
    unfold bytesT
    rw [by_mk]
    simp [partsT, cat, by_]
  have h0 := h
  simp only [treeB, Bool.and_eq_true, decide_eq_true_eq] at h0
  have hn : ∀ n ∈ L, okN n := fun n hn => okN_right (goI_all L _ _ h0.2 n hn)
  have hg := getNum_fwd (s := bytesT L) (n := (L.length : Int)) (p := 0) (r := cat (L.flatMap nodeP)) h8 (by omega) (by omega) (by rw [List.drop_zero, hb, by_num])
  rw [Nat.zero_add] at hg
  have hd : (by_ (bytesT L)).drop (enc (fold (L.length : Int))).length = cat (L.flatMap nodeP) ++ [] := by
    rw [hb, by_num, List.drop_left, List.append_nil]
  have hs := steps_fwd h8 hn hd L.length (Nat.le_refl _)
  rw [List.take_length] at hs
  have hg' : getNum (bytesT L) 0 = ((L.length : Int), ((enc (fold (L.length : Int))).length : Int), 0) := hg
  rw [treeR_end hg' h0.1 (by rw [hs]), hs, if_pos]
  show treeBytes L = bytesT L
  rw [treeBytes, if_pos h, if_neg (by omega)]
end Pl
end Go.Proofs.YtfjpbmacfcabaabDoor
