import Derived.Test.YtbomeifgfalmdaaGreatDoorG19
namespace Go.Proofs.YtbomeifgfalmdaaGreatDoor
namespace Pl
theorem leavesN_len (X:Fx):(za8 X).length≤X.sz:=by
 induction X with
 |nil=>exact Nat.le_refl _
 |cons L k m ih1 ih2=>
  rw [za8,List.length_append,Fx.sz]
  split
  ·rw [List.length_singleton];omega
  ·omega
theorem kid_join {L:List Nd} {k:Fx} (ho:(Fx.cons L k .nil).okX) {q:ByteArray} (hq:za0 q=true) (t:ByteArray) (ht:∃M∈za8 (.cons L k .nil),t∈zb2 q M):t.size≤8000∧za0 (ze8 q t).1=true:=by
 obtain ⟨x,hx2,ht2⟩:=(yd9 q t _ ho).2 ht;obtain ⟨n, -,h1,h2⟩:=kid_in (Fx.ok_mem ho x hx2).1 ht2;have e:=yf0 h2 h1;have h3:=(zw5 h2).1 t (by rw [h1];simp)
 have ht8:t.size≤8000:=by
  have h5:t.size≤20:=by unfold zb8 at h3;exact (of_decide_eq_true h3).2.1
  omega
 refine ⟨ht8,?_⟩;have hq8:=zg0 hq;unfold ze8;rw [if_neg (by omega),if_neg (by simp [hq,h3]),zc1 hq]
 split
 ·rfl
 ·show za0 (zh5 q t)=true;rw [e];exact h2
end Pl
end Go.Proofs.YtbomeifgfalmdaaGreatDoor
