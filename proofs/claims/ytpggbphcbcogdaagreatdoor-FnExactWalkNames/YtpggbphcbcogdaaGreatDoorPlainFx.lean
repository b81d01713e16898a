import Derived.Test.YtpggbphcbcogdaaGreatDoorPlainItem
namespace Go.Proofs.YtpggbphcbcogdaaGreatDoor
namespace Pl
inductive Fx where
 |nil:Fx
 |cons (L:List Nd) (kids more:Fx):Fx
namespace Fx
def shape:Fx→Fo
 | .nil=> .nil
 | .cons _ k m=> .cons k.shape m.shape
def len:Fx→Nat
 | .nil=>0
 | .cons _ _ m=>m.len+1
def sz:Fx→Nat
 | .nil=>0
 | .cons _ k m=>k.sz+m.sz+1
def flat:Fx→List (Int × List Nd)
 | .nil=>[]
 | .cons L k m=>((k.len:Int),L)::(k.flat++m.flat)
def app:Fx→Fx→Fx
 | .nil,r=>r
 | .cons L k m,r=> .cons L k (m.app r)
def okX:Fx→Prop
 | .nil=>True
 | .cons L k m=>zb9 L=true∧(k= .nil∨L=[])∧k.len≤4∧k.okX∧m.okX
theorem zo7 (X:Fx):X.shape.len=X.len:=by
 induction X with
 |nil=>rfl
 |cons L k m _ ih=>rw [shape,Fo.len,len,ih]
theorem zt (X:Fx):X.flat.length=X.sz:=by
 induction X with
 |nil=>rfl
 |cons L k m ih1 ih2=>rw [flat,List.length_cons,List.length_append,ih1,ih2,sz]
theorem shape_app (a b:Fx):(a.app b).shape=a.shape.app b.shape:=by
 induction a with
 |nil=>rfl
 |cons L k m _ ih=>rw [app,shape,shape,ih];rfl
theorem len_app (a b:Fx):(a.app b).len=a.len+b.len:=by
 induction a with
 |nil=>simp [app,len]
 |cons L k m _ ih=>rw [app,len,len,ih];omega
theorem flat_app (a b:Fx):(a.app b).flat=a.flat++b.flat:=by
 induction a with
 |nil=>rfl
 |cons L k m _ ih=>rw [app,flat,flat,ih];simp
theorem ok_app {a b:Fx} (ha:a.okX) (hb:b.okX):(a.app b).okX:=by
 induction a with
 |nil=>exact hb
 |cons L k m _ ih=>exact ⟨ha.1,ha.2.1,ha.2.2.1,ha.2.2.2.1,ih ha.2.2.2.2⟩
theorem shape_nil {X:Fx} (h:X.shape= .nil):X= .nil:=by
 cases X with
 |nil=>rfl
 |cons L k m=>cases h
theorem zm5 {X:Fx} (h:X.len=0):X= .nil:=by
 cases X with
 |nil=>rfl
 |cons L k m=>simp [len] at h
theorem len_le (X:Fx):X.len≤X.sz:=by
 induction X with
 |nil=>exact Nat.le_refl _
 |cons L k m _ ih=>rw [len,sz];omega
theorem ok_mem {X:Fx} (h:X.okX):∀x∈X.flat,zb9 x.2=true∧0≤x.1∧x.1≤4:=by
 induction X with
 |nil=>intro x hx;cases hx
 |cons L k m ih1 ih2=>
  intro x hx;rw [flat,List.mem_cons,List.mem_append] at hx
  rcases hx with rfl |hx|hx
  ·exact ⟨h.1,by omega,by have :=h.2.2.1;omega⟩
  ·exact ih1 h.2.2.2.1 x hx
  ·exact ih2 h.2.2.2.2 x hx
end Fx
end Pl
end Go.Proofs.YtpggbphcbcogdaaGreatDoor
