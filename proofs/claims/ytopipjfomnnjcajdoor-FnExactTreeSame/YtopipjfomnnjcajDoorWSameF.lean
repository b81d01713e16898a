/- The walks of TreeSame, of both sides. -/
import Derived.Test.YtopipjfomnnjcajDoorWNodesR
import Derived.Test.YtopipjfomnnjcajDoorWSameE
import Derived.Test.YtopipjfomnnjcajDoorWTreeR
import Derived.Test.YtopipjfomnnjcajDoorWNodesJ
namespace Go.Proofs.YtopipjfomnnjcajDoor
open Go.RowKit
namespace WSameT
def sameB (A B : List Pl.Nd) : Bool := Pl.treeB A && Pl.treeB B && Pl.eqL A B
set_option linter.unusedSimpArgs false in
set_option maxRecDepth 100000 in
set_option maxHeartbeats 2000000 in
theorem spec_any (a b : Option Addr) (c1 c2 : Nat) (A B : List Pl.Nd) (w : World) (hA : A.length ≤ 1048576) (hB : B.length ≤ 1048576) (hv : Mem.isNodes w a A) (hu : Mem.isNodes w b B) (okA : ∀ n ∈ A, n.path.size ≤ 1048576 ∧ n.data.size ≤ 1048576) (okB : ∀ n ∈ B, n.path.size ≤ 1048576 ∧ n.data.size ≤ 1048576) :
    Calls Tryd.prog 20 #[.agg #[.slice a A.length c1], .agg #[.slice b B.length c2]] w fun e w' => e = .returned (.bool (sameB A B)) ∧ Below w.heap.size w w' := by
  have b0 : Below w.heap.size w ((w.alloc (.cells #[.slice a A.length c1] 29)).alloc (.cells #[.slice b B.length c2] 29)) := ((Below.refl _ _).alloc (Nat.le_refl _) _).alloc (by simp) _
  have va := Mem.var_alloc (Mem.var_new w [.slice a A.length c1] 29) (.cells #[.slice b B.length c2] 29)
  have vb := Mem.var_new (w.alloc (.cells #[.slice a A.length c1] 29)) [.slice b B.length c2] 29
  rw [show (w.alloc (.cells #[.slice a A.length c1] 29)).heap.size = w.heap.size + 1 by simp] at vb
  have hra := hide (fun W (bw : Below w.heap.size w W) => WTreeS.right_tree a c1 A W hA (Mem.nodes_call hv bw) okA)
  have hrb := hide (fun W (bw : Below w.heap.size w W) => WTreeS.right_tree b c2 B W hB (Mem.nodes_call hu bw) okB)
  have hs := hide (fun W (bw : Below w.heap.size w W) => same_any a b c1 c2 A B W hA (Mem.nodes_call hv bw) (Mem.nodes_call hu bw))
  unfold sameB
  generalize Pl.eqL A B = R3 at hs ⊢
  generalize Pl.treeB A = R1 at hra ⊢
  generalize Pl.treeB B = R2 at hrb ⊢
  clear hv hu okA okB
  go_enter Tryd.func20, Tryd.ntmps20
  go_wp2_with fail
  refine (unhide hra _ b0).mono ?_
  rintro e w1 ⟨rfl, b1⟩
  have bw1 := b0.trans (b1.mono b0.size)
  have va1 := Mem.var_call va b1
  have vb1 := Mem.var_call vb b1
  clear hra va vb b1 b0
  cases R1
  · clear va1 vb1
    go_wp2
    go_ret
    exact ⟨rfl, bw1⟩
  have c0 := vb1.2 0 _ rfl
  go_wp2_with fail
  refine (unhide hrb _ bw1).mono ?_
  rintro e w2 ⟨rfl, b2⟩
  have bw2 := bw1.trans (b2.mono bw1.size)
  have va2 := Mem.var_call va1 b2
  have vb2 := Mem.var_call vb1 b2
  clear hrb va1 vb1 b2 bw1 c0
  cases R2
  · clear va2 vb2
    go_wp2
    go_ret
    exact ⟨rfl, bw2⟩
  have c0 := va2.2 0 _ rfl
  have d0 := vb2.2 0 _ rfl
  go_wp2_with fail
  refine (unhide hs _ bw2).mono ?_
  rintro e w3 ⟨rfl, b3⟩
  have bw3 := bw2.trans (b3.mono bw2.size)
  clear hs va2 vb2 b3 bw2 c0 d0
  go_wp2
  go_ret
  exact ⟨ret_bool (by simp), bw3⟩
set_option linter.unusedSimpArgs false in
set_option maxRecDepth 100000 in
set_option maxHeartbeats 2000000 in
theorem impl_any (a b : Option Addr) (c1 c2 : Nat) (A B : List Pl.Nd) (w : World) (hA : A.length ≤ 1048576) (hB : B.length ≤ 1048576) (hv : Mem.isNodes w a A) (hu : Mem.isNodes w b B) (okA : ∀ n ∈ A, n.path.size ≤ 1048576 ∧ n.data.size ≤ 1048576) (okB : ∀ n ∈ B, n.path.size ≤ 1048576 ∧ n.data.size ≤ 1048576) (r1 r2 r3 : TypeId) (x1 x2 x3 : Value) (hE : WNodesI.Errs w r1 r2 r3 x1 x2 x3) :
    Calls Tryd.prog 21 #[.agg #[.slice a A.length c1], .agg #[.slice b B.length c2]] w fun e w' => e = .returned (.bool (sameB A B)) ∧ Below w.heap.size w w' := by
  have b0 : Below w.heap.size w ((w.alloc (.cells #[.slice a A.length c1] 29)).alloc (.cells #[.slice b B.length c2] 29)) := ((Below.refl _ _).alloc (Nat.le_refl _) _).alloc (by simp) _
  have va := Mem.var_alloc (Mem.var_new w [.slice a A.length c1] 29) (.cells #[.slice b B.length c2] 29)
  have vb := Mem.var_new (w.alloc (.cells #[.slice a A.length c1] 29)) [.slice b B.length c2] 29
  rw [show (w.alloc (.cells #[.slice a A.length c1] 29)).heap.size = w.heap.size + 1 by simp] at vb
  have hra := hide (fun W (bw : Below w.heap.size w W) => WNodesI.treeRight_any a c1 A W hA (Mem.nodes_call hv bw) okA r1 r2 r3 x1 x2 x3 (hE.call bw))
  have hrb := hide (fun W (bw : Below w.heap.size w W) => WNodesI.treeRight_any b c2 B W hB (Mem.nodes_call hu bw) okB r1 r2 r3 x1 x2 x3 (hE.call bw))
  have hs := hide (fun W (bw : Below w.heap.size w W) => equal_any a b c1 c2 A B W hA (Mem.nodes_call hv bw) (Mem.nodes_call hu bw))
  unfold sameB
  generalize Pl.eqL A B = R3 at hs ⊢
  generalize Pl.treeB A = R1 at hra ⊢
  generalize Pl.treeB B = R2 at hrb ⊢
  clear hv hu okA okB hE
  go_enter Tryd.func21, Tryd.ntmps21
  go_wp2_with fail
  refine (unhide hra _ b0).mono ?_
  rintro e w1 ⟨rfl, b1⟩
  have bw1 := b0.trans (b1.mono b0.size)
  have va1 := Mem.var_call va b1
  have vb1 := Mem.var_call vb b1
  clear hra va vb b1 b0
  cases R1
  · clear va1 vb1
    go_wp2
    go_ret
    exact ⟨rfl, bw1⟩
  have c0 := vb1.2 0 _ rfl
  go_wp2_with fail
  refine (unhide hrb _ bw1).mono ?_
  rintro e w2 ⟨rfl, b2⟩
  have bw2 := bw1.trans (b2.mono bw1.size)
  have va2 := Mem.var_call va1 b2
  have vb2 := Mem.var_call vb1 b2
  clear hrb va1 vb1 b2 bw1 c0
  cases R2
  · clear va2 vb2
    go_wp2
    go_ret
    exact ⟨rfl, bw2⟩
  have c0 := va2.2 0 _ rfl
  have d0 := vb2.2 0 _ rfl
  go_wp2_with fail
  refine (unhide hs _ bw2).mono ?_
  rintro e w3 ⟨rfl, b3⟩
  have bw3 := bw2.trans (b3.mono bw2.size)
  clear hs va2 vb2 b3 bw2 c0 d0
  go_wp2
  go_ret
  exact ⟨ret_bool (by simp), bw3⟩
end WSameT
end Go.Proofs.YtopipjfomnnjcajDoor
