/- Several texts of one claim in one file: PlainParts, PlainNestCh, PlainSetF, PlainBeg. -/
import Derived.Test.YtppmlbofhghghaaGreatDoorG01
import Derived.Test.YtppmlbofhghghaaGreatDoorWPlainQ
import Derived.Test.YtppmlbofhghghaaGreatDoorG26
import Derived.Test.YtppmlbofhghghaaGreatDoorPlainSightN
import Derived.Test.YtppmlbofhghghaaGreatDoorPlainWay
import Derived.Test.YtppmlbofhghghaaGreatDoorG25
namespace Go.Proofs.YtppmlbofhghghaaGreatDoor
namespace Pl
theorem bare_node {n : Nd} (h : zb n = true) (hk : n.kind ≠ 0) : zb n.bare = true := by
 simp only [zb, Bool.and_eq_true, decide_eq_true_eq] at h ⊢
 obtain ⟨⟨⟨⟨⟨h1, h2⟩, h3⟩, h4⟩, h5⟩, h6⟩ := h
 refine ⟨⟨⟨⟨⟨h1, h2⟩, h3⟩, h4⟩, by simp [Nd.bare]⟩, ?_⟩
 unfold zk1 at h6 ⊢
 have e : n.bare.kind = n.kind := rfl
 rw [e, if_neg hk] at *
 by_cases hk1 : n.kind = 1
 ·rw [if_pos hk1] at h6 ⊢; exact h6
 ·rw [if_neg hk1] at h6 ⊢
  by_cases hk2 : n.kind = 2
  ·rw [if_pos hk2]; simp [Nd.bare]
  ·rw [if_neg hk2] at h6; cases h6
theorem yi8 {L : List Nd} {n : Nd} : n ∈ zd4 L ↔ ∃ m ∈ L, m.kind ≠ 0 ∧ m.bare = n := by
 unfold zd4
 rw [List.mem_map]
 constructor
 ·rintro ⟨m, hm, e⟩
  obtain ⟨h1, h2⟩ := List.mem_filter.1 hm
  exact ⟨m, h1, by simpa using h2, e⟩
 ·rintro ⟨m, h1, h2, e⟩
  exact ⟨m, List.mem_filter.2 ⟨h1, by simpa using h2⟩, e⟩
theorem plainL_tree {L : List Nd} (h : za5 L = true) : za5 (zd4 L) = true := by
 rw [zd2] at h ⊢
 obtain ⟨h1, h2, h3⟩ := h
 have hp : (zd4 L).Pairwise (fun a b => zb0 (names a.path) (names b.path) = true) := by
  unfold zd4
  rw [List.pairwise_map]
  exact h3.filter _
 refine ⟨?_, fun n hn => ?_, hp⟩
 ·have := yb3 L L.length
  rw [List.take_length] at this
  omega
 ·obtain ⟨m, hm, hk, rfl⟩ := yi8.1 hn
  refine ⟨bare_node (h2 m hm).1 hk, ?_⟩
  rw [zu5 hp]
  rcases (zu5 h3 _).1 (h2 m hm).2 with hz | ⟨q, hq, e, hq1⟩
  ·exact .inl hz
  ·exact .inr ⟨q.bare, yi8.2 ⟨q, hq, by rw [hq1]; decide, rfl⟩, e, hq1⟩
theorem plainL_plain {L : List Nd} (h : za5 L = true) : zd1 (zd4 L) = true := by
 unfold zd1
 rw [plainL_tree h, Bool.true_and, List.all_eq_true]
 intro n hn
 obtain ⟨m, -, -, rfl⟩ := yi8.1 hn
 rfl
end Pl
end Go.Proofs.YtppmlbofhghghaaGreatDoor

namespace Go.Proofs.YtppmlbofhghghaaGreatDoor
namespace Pl
def zj4 (p : ByteArray) : List ByteArray := ways (zb2 (zb7 p)) (zb2 (zb7 p)).length
def zb5 (XS : List (Int × List Nd)) (n : Nd) (pc : List Nd → Int) (lf : List Nd → List Nd → Int → List Nd) : Int × List (Int × List Nd) :=
 if n.path.size ≤ 8000 ∧ n.data.size ≤ 8000 then
  if 400 < XS.length then (2, []) else
  match zn6 XS with
  | none => (1, [])
  | some (L, K) =>
   if zb n = true then
    if ze XS = 0 then
     if pc (zc5 XS) = 0 then
      if 40 < (lf (zc5 XS) (zg9 (zc5 XS) (zd5 L K) (zj4 n.path)) (K.shape.level : Int)).length then (9, [])
      else (0, (setF (lf (zc5 XS) (zg9 (zc5 XS) (zd5 L K) (zj4 n.path)) (K.shape.level : Int)) (.cons L K .nil)).flat)
     else (pc (zc5 XS), [])
    else (ze XS, [])
   else (1, [])
 else (2, [])
theorem setF_okR {O : List Nd} (hO : zd9 O) (X : Fx) : X.okR → (setF O X).okR := by
 induction X with
 | nil => intro h; exact h
 | cons L k m ih _ => cases k with
  | nil => intro h; exact ⟨hO, .inl rfl, h.2.2.1, trivial, h.2.2.2.2⟩
  | cons L1 k1 m1 =>
   intro h
   refine ⟨h.1, ?_, ?_, ih h.2.2.2.1, h.2.2.2.2⟩
   ·rcases h.2.1 with h1 | h1
    ·cases h1
    ·exact .inr h1
   ·rw [zx3]; exact h.2.2.1
theorem setF_sz (O : List Nd) (X : Fx) : (setF O X).sz = X.sz := by
 rw [← Fx.yd3, ← Fx.yd3, setF_shape]
theorem zt9 {XS : List (Int × List Nd)} (h : ze XS = 0) : zd1 (zc5 XS) = true := by
 rw [yj8 h]
 exact plainL_plain (yf5 h)
end Pl
end Go.Proofs.YtppmlbofhghghaaGreatDoor

namespace Go.Proofs.YtppmlbofhghghaaGreatDoor
namespace Pl
theorem level_lt (X : Fx) : ∀ L k m, X = .cons L k m → k.shape.level < X.flat.length := by
 induction X with
 | nil => intro L k m h; cases h
 | cons L0 k0 m0 ih _ =>
  intro L k m h
  cases h
  cases k0 with
  | nil => simp [Fx.shape, Fo.level, Fx.flat]
  | cons L1 k1 m1 =>
   have := ih L1 k1 m1 rfl
   rw [Fx.flat]
   simp only [Fx.shape, Fo.level, List.length_cons, List.length_append]
   omega
theorem setF_flat (O : List Nd) (X : Fx) : ∀ L k m, X = .cons L k m → (setF O X).flat = X.flat.set k.shape.level ((0 : Int), O) := by
 induction X with
 | nil => intro L k m h; cases h
 | cons L0 k0 m0 ih _ =>
  intro L k m h
  cases h
  cases k0 with
  | nil => simp [setF, Fx.shape, Fo.level, Fx.flat, Fx.len]
  | cons L1 k1 m1 =>
   have h1 := ih L1 k1 m1 rfl
   have h2 := level_lt (.cons L1 k1 m1) L1 k1 m1 rfl
   rw [setF, Fx.flat, h1, zx3, show (Fx.cons L0 (.cons L1 k1 m1) m0).flat = (((Fx.cons L1 k1 m1).len : Int), L0) :: ((Fx.cons L1 k1 m1).flat ++ m0.flat) from rfl]
   simp only [Fx.shape, Fo.level]
   rw [Nat.add_comm 1, List.set_cons_succ, List.set_append_left _ _ h2]
theorem first_flat (X : Fx) : ∀ L k m, X = .cons L k m → X.flat[k.shape.level]? = some ((0 : Int), zd5 L k) := by
 induction X with
 | nil => intro L k m h; cases h
 | cons L0 k0 m0 ih _ =>
  intro L k m h
  cases h
  cases k0 with
  | nil => simp [zd5, Fx.shape, Fo.level, Fx.flat, Fx.len]
  | cons L1 k1 m1 =>
   have h1 := ih L1 k1 m1 rfl
   have h2 := level_lt (.cons L1 k1 m1) L1 k1 m1 rfl
   rw [Fx.flat, zd5]
   simp only [Fx.shape, Fo.level]
   rw [Nat.add_comm 1, List.getElem?_cons_succ, List.getElem?_append_left h2]
   exact h1
end Pl
end Go.Proofs.YtppmlbofhghghaaGreatDoor

namespace Go.Proofs.YtppmlbofhghghaaGreatDoor
namespace Pl
def begC (XS : List (Int × List Nd)) (n : Nd) : Int := if 400 < XS.length ∨ 8000 < n.path.size ∨ 8000 < n.data.size then 2 else if (nest (rowO XS)).isSome = true ∧ zb n = true then ze XS else 1
def begT (XS : List (Int × List Nd)) (n : Nd) : List Nd := if 400 < XS.length ∨ 8000 < n.path.size ∨ 8000 < n.data.size then [] else if (nest (rowO XS)).isSome = true ∧ zb n = true then zc5 XS else []
theorem yc5 {XS : List (Int × List Nd)} {n : Nd} (h : 400 < XS.length ∨ 8000 < n.path.size ∨ 8000 < n.data.size) : begC XS n = 2 ∧ begT XS n = [] := ⟨if_pos h, if_pos h⟩
theorem yh7 {XS : List (Int × List Nd)} {n : Nd} (h : ¬ (400 < XS.length ∨ 8000 < n.path.size ∨ 8000 < n.data.size)) (h2 : ¬ ((nest (rowO XS)).isSome = true ∧ zb n = true)) : begC XS n = 1 ∧ begT XS n = [] := by
 unfold begC begT
 rw [if_neg h, if_neg h, if_neg h2, if_neg h2]
 exact ⟨rfl, rfl⟩
theorem beg_go {XS : List (Int × List Nd)} {n : Nd} (h : ¬ (400 < XS.length ∨ 8000 < n.path.size ∨ 8000 < n.data.size)) (h2 : (nest (rowO XS)).isSome = true ∧ zb n = true) : begC XS n = ze XS ∧ begT XS n = zc5 XS := by
 unfold begC begT
 rw [if_neg h, if_neg h, if_pos h2, if_pos h2]
 exact ⟨rfl, rfl⟩
theorem zu8 {XS : List (Int × List Nd)} {n : Nd} (h : begC XS n = 0) : XS.length ≤ 400 ∧ n.path.size ≤ 8000 ∧ n.data.size ≤ 8000 ∧ (nest (rowO XS)).isSome = true ∧ zb n = true ∧ ze XS = 0 ∧ begT XS n = zc5 XS := by
 by_cases h1 : 400 < XS.length ∨ 8000 < n.path.size ∨ 8000 < n.data.size
 ·rw [(yc5 h1).1] at h; cases h
 ·by_cases h2 : (nest (rowO XS)).isSome = true ∧ zb n = true
  ·rw [(beg_go h1 h2).1] at h
   exact ⟨by omega, by omega, by omega, h2.1, h2.2, h, (beg_go h1 h2).2⟩
  ·rw [(yh7 h1 h2).1] at h; cases h
theorem yd0 {XS : List (Int × List Nd)} {n : Nd} (h : begC XS n ≠ 0) (pc : List Nd → Int) (lf : List Nd → List Nd → Int → List Nd) : zb5 XS n pc lf = (begC XS n, []) := by
 by_cases h1 : 400 < XS.length ∨ 8000 < n.path.size ∨ 8000 < n.data.size
 ·rw [(yc5 h1).1]
  unfold zb5
  by_cases h3 : n.path.size ≤ 8000 ∧ n.data.size ≤ 8000
  ·rw [if_pos h3, if_pos (by omega)]
  ·rw [if_neg h3]
 ·have h3 : n.path.size ≤ 8000 ∧ n.data.size ≤ 8000 := by omega
  by_cases h2 : (nest (rowO XS)).isSome = true ∧ zb n = true
  ·rw [(beg_go h1 h2).1] at h ⊢
   obtain ⟨F, hF⟩ := Option.isSome_iff_exists.1 h2.1
   obtain ⟨L, k, -, -, -, hx⟩ := zm8 hF
   unfold zb5
   rw [if_pos h3, if_neg (by omega), hx]
   simp only
   rw [if_pos h2.2, if_neg h]
  ·rw [(yh7 h1 h2).1]
   unfold zb5
   rw [if_pos h3, if_neg (by omega)]
   cases hN : nest (rowO XS) with
   | none => rw [zw3 hN]
   | some F =>
    obtain ⟨L, k, -, -, -, hx⟩ := zm8 hN
    rw [hx]
    simp only
    rw [if_neg (fun h4 => h2 ⟨by rw [hN]; rfl, h4⟩)]
theorem beg_pc {XS : List (Int × List Nd)} {n : Nd} (h : begC XS n = 0) {pc : List Nd → Int} (hp : pc (zc5 XS) ≠ 0) (lf : List Nd → List Nd → Int → List Nd) : zb5 XS n pc lf = (pc (zc5 XS), []) := by
 obtain ⟨h1, h2, h3, h4, h5, h6, -⟩ := zu8 h
 obtain ⟨F, hF⟩ := Option.isSome_iff_exists.1 h4
 obtain ⟨L, k, -, -, -, hx⟩ := zm8 hF
 unfold zb5
 rw [if_pos ⟨h2, h3⟩, if_neg (by omega), hx]
 simp only
 rw [if_pos h5, if_pos h6, if_neg hp]
theorem yh {XS : List (Int × List Nd)} {n : Nd} (h : begC XS n = 0) {L : List Nd} {K : Fx} (hx : zn6 XS = some (L, K)) (hf : (Fx.cons L K .nil).flat = XS) {pc : List Nd → Int} (hp : pc (zc5 XS) = 0) (lf : List Nd → List Nd → Int → List Nd) :
  zb5 XS n pc lf = (if 40 < (lf (zc5 XS) (zg9 (zc5 XS) (zd5 L K) (zj4 n.path)) (K.shape.level : Int)).length then 9 else 0, if 40 < (lf (zc5 XS) (zg9 (zc5 XS) (zd5 L K) (zj4 n.path)) (K.shape.level : Int)).length then [] else XS.set K.shape.level ((0 : Int), lf (zc5 XS) (zg9 (zc5 XS) (zd5 L K) (zj4 n.path)) (K.shape.level : Int))) := by
 obtain ⟨h1, h2, h3, h4, h5, h6, -⟩ := zu8 h
 unfold zb5
 rw [if_pos ⟨h2, h3⟩, if_neg (by omega), hx]
 simp only
 rw [if_pos h5, if_pos h6, if_pos hp, setF_flat _ _ L K .nil rfl, hf]
 split <;> rfl
theorem kind_two (p : ByteArray) (t : Int) : zb ⟨p, 2, ⟨#[]⟩, t, 0⟩ = zb ⟨p, 1, ⟨#[]⟩, t, 0⟩ := by
 have e : (⟨#[]⟩ : ByteArray).size = 0 := rfl
 simp [zb, zk1, e]
theorem begC_kind (XS : List (Int × List Nd)) (p : ByteArray) (t : Int) : begC XS ⟨p, 2, ⟨#[]⟩, t, 0⟩ = begC XS ⟨p, 1, ⟨#[]⟩, t, 0⟩ := by unfold begC; rw [kind_two]
theorem begT_kind (XS : List (Int × List Nd)) (p : ByteArray) (t : Int) : begT XS ⟨p, 2, ⟨#[]⟩, t, 0⟩ = begT XS ⟨p, 1, ⟨#[]⟩, t, 0⟩ := by unfold begT; rw [kind_two]
end Pl
end Go.Proofs.YtppmlbofhghghaaGreatDoor

