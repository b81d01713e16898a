/- Memory of the call's own: bytes that were appended, read as a text; what stays below. No program in sight. -/
import Derived.Test.YtljgjmpeijlceaePlain
import Derived.Test.YtljgjmpeijlceaeKit
import Derived.WalkKit
import Derived.Laws.IdiomStrings
namespace Go.Proofs.Ytljgjmpeijlceae
open Go.RowKit
namespace Mem
theorem add_lit (b j : Nat) : (⟨b, 0, none⟩ : Addr).add j = ⟨b, j, none⟩ := by unfold Addr.add; split <;> simp_all

/-- 'string(b)' of bytes that the call itself has gathered. -/
theorem own_text {P : Program} {src dst e : TypeId} (hs : P.underlying src = some (.slice e)) (he : P.underlying e = some (.int .u8)) (hd : P.underlying dst = some .string)
    {w : World} {base : Nat} {v : Value} {n : Nat} (l : List UInt8) (hn : l.length = n) (h0 : 0 < n) (h : w.ownsRow base e 1 v n (l.map Pl.byteVal)) :
    (convert src dst v).run P w = .ok (.string ⟨l.toArray⟩) w := by
  subst hn
  rcases h.2 with ⟨_, h'⟩ | ⟨g, cap, cur, rfl, hb, hg, hcap, hm, hsz, ht⟩
  · omega
  refine run_convert_bytes_back w src dst e ⟨g, 0, none⟩ cap l hs he hd (fun j hj => ?_)
  rw [add_lit, cell_of_row w g j cur e (0, 0) hg]
  have h1 : (cur.toList.take (l.length * 1))[j]? = (l.map Pl.byteVal)[j]? := by rw [ht]
  rw [List.getElem?_take_of_lt (by omega)] at h1
  simpa [Pl.byteVal, hj] using h1

/-- Behind an append: old memory is as it was. -/
theorem below_append {B : Nat} {a w w1 : World} {o : Obj} {e : TypeId} {size n : Nat} {v : Value} {xs : List Value} (h : Below B a w) (hB : B ≤ a.heap.size) (hown : w.ownsRow B e size v n xs) (hg : (w.alloc o).grownBy w1 v.ownBlock) : Below B a w1 :=
  have hs := h.size
  (h.alloc (by omega) o).grown hg (by simp; omega) (fun k hk => (hown.lt k hk).1)

theorem one_new (w : World) (v : Value) (e : TypeId) : ∀ j u, [v][j]? = some u → (w.alloc (.cells #[v] e)).cell? ((⟨w.heap.size, 0, none⟩ : Addr).add j) = some u := by
  intro j u hj
  match j, hj with
  | 0, hj => simp at hj; subst hj; rw [add_lit]; simp
  | j + 1, hj => simp at hj
theorem one_cell (k : IntKind) (x : Int) : ∀ u ∈ [Value.int k x], u.oneCell' = true := by
  intro u hu; simp at hu; subst hu; rfl
end Mem
end Go.Proofs.Ytljgjmpeijlceae
