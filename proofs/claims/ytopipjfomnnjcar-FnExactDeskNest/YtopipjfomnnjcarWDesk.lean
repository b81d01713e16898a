/- The walks of DeskNest, of the program and of the specification. -/
import Derived.Test.YtopipjfomnnjcarMemOwnI
import Derived.Test.YtopipjfomnnjcarMemBlk
namespace Go.Proofs.Ytopipjfomnnjcar
open Go.RowKit
namespace Pl
def tr0 : Tr := ⟨none, 0, []⟩
def bA : ByteArray := ⟨#[97]⟩
def bAX : ByteArray := ⟨#[97, 47, 120]⟩
def bAY : ByteArray := ⟨#[97, 47, 121]⟩
def inner : List Nd := [⟨bA, 1, ⟨#[]⟩, 1, 0⟩, ⟨bAX, 2, ⟨#[105, 110]⟩, 2, 0⟩]
def far : List Nd := [⟨bA, 1, ⟨#[]⟩, 3, 0⟩, ⟨bAX, 2, ⟨#[108, 111, 119]⟩, 4, 0⟩, ⟨bAY, 2, ⟨#[102, 97, 114]⟩, 5, 0⟩]
def desk (h1 h2 : Nat) : List It := [⟨2, tr0⟩, ⟨2, tr0⟩, ⟨0, tr0⟩, ⟨0, ⟨some ⟨h1, 0, none⟩, 2, inner⟩⟩, ⟨1, tr0⟩, ⟨0, ⟨some ⟨h2, 0, none⟩, 3, far⟩⟩]
def innerC : Array Value := #[.string ⟨#[97]⟩, .int .i64 1, .string ⟨#[]⟩, .int .i64 1, .int .i64 0, .string ⟨#[97, 47, 120]⟩, .int .i64 2, .string ⟨#[105, 110]⟩, .int .i64 2, .int .i64 0]
def farC : Array Value := #[.string ⟨#[97]⟩, .int .i64 1, .string ⟨#[]⟩, .int .i64 3, .int .i64 0, .string ⟨#[97, 47, 120]⟩, .int .i64 2, .string ⟨#[108, 111, 119]⟩, .int .i64 4, .int .i64 0, .string ⟨#[97, 47, 121]⟩, .int .i64 2, .string ⟨#[102, 97, 114]⟩, .int .i64 5, .int .i64 0]
def deskC (h1 h2 : Nat) : Array Value := #[.int .i64 2, .slice none 0 0, .int .i64 2, .slice none 0 0, .int .i64 0, .slice none 0 0, .int .i64 0, .slice (some ⟨h1, 0, none⟩) 2 2, .int .i64 1, .slice none 0 0, .int .i64 0, .slice (some ⟨h2, 0, none⟩) 3 3]
theorem desk_r (h1 h2 k1 k2 : Nat) : (desk h1 h2).map It.r = (desk k1 k2).map It.r := rfl
theorem desk_len (h1 h2 : Nat) : (desk h1 h2).length = 6 := rfl
theorem desk_L (h1 h2 : Nat) : ∀ x ∈ desk h1 h2, x.t.L.length ≤ 1048576 := by
  intro x hx
  simp only [desk, List.mem_cons, List.not_mem_nil, or_false] at hx
  rcases hx with rfl | rfl | rfl | rfl | rfl | rfl <;> simp [tr0, inner, far]
theorem desk_k (h1 h2 : Nat) : kAt 1 (desk h1 h2) 6 = 32 := rfl
theorem desk_ks (h1 h2 : Nat) : ∀ i, i ≤ (desk h1 h2).length → kAt 1 (desk h1 h2) i ≤ 100000 := by
  intro i hi
  rw [desk_len] at hi
  match i, hi with
  | 0, _ => show (1 : Nat) ≤ 100000; omega
  | 1, _ => show (2 : Nat) ≤ 100000; omega
  | 2, _ => show (3 : Nat) ≤ 100000; omega
  | 3, _ => show (4 : Nat) ≤ 100000; omega
  | 4, _ => show (15 : Nat) ≤ 100000; omega
  | 5, _ => show (16 : Nat) ≤ 100000; omega
  | 6, _ => show (32 : Nat) ≤ 100000; omega
end Pl
namespace WDesk
theorem nodes_in {w : World} {h : Nat} (hr : w.heap[h]? = some (.cells Pl.innerC 28 (0, 0))) : Mem.isNodes w (some ⟨h, 0, none⟩) Pl.inner := fun i n hi => by
  have hlt := (Array.getElem?_eq_some_iff.1 hr).1
  have c : ∀ k, w.cell? ⟨h, 0 + k, none⟩ = Pl.innerC[k]? := fun k => by rw [cell_of_row w h _ _ _ (0, 0) hr, Nat.zero_add]
  match i, hi with
  | 0, hi => cases hi; exact ⟨h, 0, rfl, hlt, c 0, c 1, c 2, c 3, c 4⟩
  | 1, hi => cases hi; exact ⟨h, 0, rfl, hlt, c 5, c 6, c 7, c 8, c 9⟩
  | i + 2, hi => simp [Pl.inner] at hi
theorem nodes_far {w : World} {h : Nat} (hr : w.heap[h]? = some (.cells Pl.farC 28 (0, 0))) : Mem.isNodes w (some ⟨h, 0, none⟩) Pl.far := fun i n hi => by
  have hlt := (Array.getElem?_eq_some_iff.1 hr).1
  have c : ∀ k, w.cell? ⟨h, 0 + k, none⟩ = Pl.farC[k]? := fun k => by rw [cell_of_row w h _ _ _ (0, 0) hr, Nat.zero_add]
  match i, hi with
  | 0, hi => cases hi; exact ⟨h, 0, rfl, hlt, c 0, c 1, c 2, c 3, c 4⟩
  | 1, hi => cases hi; exact ⟨h, 0, rfl, hlt, c 5, c 6, c 7, c 8, c 9⟩
  | 2, hi => cases hi; exact ⟨h, 0, rfl, hlt, c 10, c 11, c 12, c 13, c 14⟩
  | i + 3, hi => simp [Pl.far] at hi
theorem own {w : World} {B g h1 h2 : Nat} (hg : w.heap[g]? = some (.cells (Pl.deskC h1 h2) 33 (0, 0))) (k1 : w.heap[h1]? = some (.cells Pl.innerC 28 (0, 0))) (k2 : w.heap[h2]? = some (.cells Pl.farC 28 (0, 0)))
    (b0 : B ≤ g) (b1 : B ≤ h1) (b2 : B ≤ h2) (n1 : h1 ≠ g) (n2 : h2 ≠ g) (n12 : h1 ≠ h2) : Mem.OwnI w B g (Pl.desk h1 h2) := by
  have hlt := (Array.getElem?_eq_some_iff.1 hg).1
  have c : ∀ k, w.cell? ⟨g, 0 + k, none⟩ = (Pl.deskC h1 h2)[k]? := fun k => by rw [cell_of_row w g _ _ _ (0, 0) hg, Nat.zero_add]
  refine ⟨⟨_, hg, Nat.le_refl _⟩, b0, fun i x hi => ?_, fun i x hi => ?_, fun i j x y hij hx hy h he => ?_⟩
  · match i, hi with
    | 0, hi => cases hi; exact ⟨⟨g, 0, rfl, hlt, c 0, c 1⟩, Mem.nodes_nil _ _⟩
    | 1, hi => cases hi; exact ⟨⟨g, 0, rfl, hlt, c 2, c 3⟩, Mem.nodes_nil _ _⟩
    | 2, hi => cases hi; exact ⟨⟨g, 0, rfl, hlt, c 4, c 5⟩, Mem.nodes_nil _ _⟩
    | 3, hi => cases hi; exact ⟨⟨g, 0, rfl, hlt, c 6, c 7⟩, nodes_in k1⟩
    | 4, hi => cases hi; exact ⟨⟨g, 0, rfl, hlt, c 8, c 9⟩, Mem.nodes_nil _ _⟩
    | 5, hi => cases hi; exact ⟨⟨g, 0, rfl, hlt, c 10, c 11⟩, nodes_far k2⟩
    | i + 6, hi => simp [Pl.desk] at hi
  · match i, hi with
    | 0, hi => cases hi; exact .inl ⟨rfl, rfl, rfl⟩
    | 1, hi => cases hi; exact .inl ⟨rfl, rfl, rfl⟩
    | 2, hi => cases hi; exact .inl ⟨rfl, rfl, rfl⟩
    | 3, hi => cases hi; exact .inr ⟨h1, _, rfl, b1, n1, k1, Nat.le_refl _⟩
    | 4, hi => cases hi; exact .inl ⟨rfl, rfl, rfl⟩
    | 5, hi => cases hi; exact .inr ⟨h2, _, rfl, b2, n2, k2, Nat.le_refl _⟩
    | i + 6, hi => simp [Pl.desk] at hi
  · have key : ∀ (i : Nat) x, (Pl.desk h1 h2)[i]? = some x → ∀ h, x.t.a = some ⟨h, 0, none⟩ → (i = 3 ∧ h = h1) ∨ (i = 5 ∧ h = h2) := fun i x hi h he => by
      match i, hi with
      | 0, hi => cases hi; cases he
      | 1, hi => cases hi; cases he
      | 2, hi => cases hi; cases he
      | 3, hi => cases hi; cases he; exact .inl ⟨rfl, rfl⟩
      | 4, hi => cases hi; cases he
      | 5, hi => cases hi; cases he; exact .inr ⟨rfl, rfl⟩
      | i + 6, hi => simp [Pl.desk] at hi
    intro he2
    rcases key i x hx h he with ⟨rfl, rfl⟩ | ⟨rfl, rfl⟩
    · rcases key j y hy _ he2 with ⟨rfl, -⟩ | ⟨-, e⟩
      · exact hij rfl
      · exact n12 e
    · rcases key j y hy _ he2 with ⟨-, e⟩ | ⟨rfl, -⟩
      · exact n12 e.symm
      · exact hij rfl
set_option maxRecDepth 100000 in
theorem impl_any (w : World) : Calls Try.prog 5 #[] w fun e w' => ∃ g h1 h2, e = .returned (.slice (some ⟨g, 0, none⟩) 6 6) ∧ Mem.OwnI w' w.heap.size g (Pl.desk h1 h2) ∧ Below w.heap.size w w' := by
  have H : Hid (Mem.OwnI (((w.alloc (.cells Pl.innerC 28)).alloc (.cells Pl.farC 28)).alloc (.cells (Pl.deskC w.heap.size (w.heap.size + 1)) 33)) w.heap.size (w.heap.size + 1 + 1) (Pl.desk w.heap.size (w.heap.size + 1))) :=
    hide (own (Mem.new_three w _ _ _) (((Mem.Blk.new w _ _).alloc _).alloc _) (Mem.new_mid w _ _ _) (by omega) (Nat.le_refl _) (by omega) (by omega) (by omega) (by omega))
  have HB : Hid (∀ o1 o2 o3, Below w.heap.size w (((w.alloc o1).alloc o2).alloc o3)) := hide (fun o1 o2 o3 => (((Below.refl _ _).alloc (Nat.le_refl _) o1).alloc (by simp) o2).alloc (by simp; omega) o3)
  go_enter Try.func5, Try.ntmps5
  go_wp2
  refine bodyPost_ret (v := .slice (some ⟨w.heap.size + 1 + 1, 0, none⟩) 6 6) (by simp [results, Try.results5, go_sem]) rfl ⟨_, _, _, rfl, unhide H, unhide HB _ _ _⟩
set_option maxRecDepth 100000 in
theorem spec_any (w : World) : Calls Try.prog 4 #[] w fun e w' => ∃ g h1 h2, e = .returned (.slice (some ⟨g, 0, none⟩) 6 6) ∧ Mem.OwnI w' w.heap.size g (Pl.desk h1 h2) ∧ Below w.heap.size w w' := by
  have H : Hid (Mem.OwnI (((((w.alloc (.cells Pl.innerC 28)).alloc (.cells #[.slice (some ⟨w.heap.size, 0, none⟩) 2 2] 31)).alloc (.cells Pl.farC 28)).alloc (.cells #[.slice (some ⟨w.heap.size + 1 + 1, 0, none⟩) 3 3] 31)).alloc (.cells (Pl.deskC w.heap.size (w.heap.size + 1 + 1)) 33)) w.heap.size (w.heap.size + 1 + 1 + 1 + 1) (Pl.desk w.heap.size (w.heap.size + 1 + 1))) := by
    refine hide (own ?_ (((((Mem.Blk.new w _ _).alloc _).alloc _).alloc _).alloc _) ((Mem.Blk.alloc (Mem.new_three w _ _ _) _).alloc _) (by omega) (Nat.le_refl _) (by omega) (by omega) (by omega) (by omega))
    have := Mem.Blk.new ((((w.alloc (.cells Pl.innerC 28)).alloc (.cells #[.slice (some ⟨w.heap.size, 0, none⟩) 2 2] 31)).alloc (.cells Pl.farC 28)).alloc (.cells #[.slice (some ⟨w.heap.size + 1 + 1, 0, none⟩) 3 3] 31)) (Pl.deskC w.heap.size (w.heap.size + 1 + 1)) 33
    simpa [Mem.Blk] using this
  have HB : Hid (∀ o1 o2 o3 o4 o5, Below w.heap.size w (((((w.alloc o1).alloc o2).alloc o3).alloc o4).alloc o5)) := hide (fun o1 o2 o3 o4 o5 => (((((Below.refl _ _).alloc (Nat.le_refl _) o1).alloc (by simp) o2).alloc (by simp; omega) o3).alloc (by simp; omega) o4).alloc (by simp; omega) o5)
  go_enter Try.func4, Try.ntmps4
  go_wp2
  refine bodyPost_ret (v := .slice (some ⟨w.heap.size + 1 + 1 + 1 + 1, 0, none⟩) 6 6) (by simp [results, Try.results4, go_sem]) rfl ⟨_, _, _, rfl, unhide H, unhide HB _ _ _ _ _⟩
end WDesk
end Go.Proofs.Ytopipjfomnnjcar
