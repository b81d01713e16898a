import Derived.Test.YtbomeifgfalmdaaGreatDoorG07
namespace Go.Proofs.YtbomeifgfalmdaaGreatDoor
namespace Pl
def kZ (K:Nat) (Ns:List Ns):Nat→Nat
 |0=>K
 |j+1=>match Ns[j]? with
  |some x=>kAt (kZ K Ns j+1) x.Is x.Is.length
  |none=>kZ K Ns j
theorem kZ_succ {K:Nat} {N:List Ns} {j:Nat} {x:Ns} (h:N[j]? =some x):kZ K N (j+1)=kAt (kZ K N j+1) x.Is x.Is.length:=by rw [kZ,h]
def mkN1 (K:Nat) (x:Ns):Ns:=⟨(K:Int),x.a,x.cap,mkTo (K+1) x.Is x.Is.length⟩
def mkZ (K:Nat) (N:List Ns) (i:Nat):List Ns:=N.mapIdx (fun j x=>if j<i then mkN1 (kZ K N j) x else x)
theorem mkZ_len (K:Nat) (N:List Ns) (i:Nat):(mkZ K N i).length=N.length:=by simp [mkZ]
theorem zr3 (K:Nat) (N:List Ns) (i j:Nat):(mkZ K N i)[j]? =N[j]?.map (fun x=>if j<i then mkN1 (kZ K N j) x else x):=by simp [mkZ,List.getElem?_mapIdx]
theorem mkZ_zero (K:Nat) (N:List Ns):mkZ K N 0=N:=by
 apply List.ext_getElem?
 intro j;simp [mkZ,List.getElem?_mapIdx]
theorem mkZ_succ (K:Nat) {N:List Ns} {i:Nat} {x:Ns} (h:N[i]? =some x):(mkZ K N i).set i (mkN1 (kZ K N i) x)=mkZ K N (i+1):=by
 apply List.ext_getElem?
 intro j;have hlt:=(List.getElem?_eq_some_iff.1 h).1;rw [List.getElem?_set,zr3,zr3];by_cases e:i=j
 ·subst e;rw [if_pos rfl,if_pos (by rw [mkZ_len];exact hlt),h,Option.map_some,if_pos (by omega)]
 ·rw [if_neg e]
  congr 1
  funext y
  by_cases e2:j<i
  ·rw [if_pos e2,if_pos (by omega)]
  ·rw [if_neg e2,if_neg (by omega)]
theorem cellsZ_set (N:List Ns) (i:Nat) (x y:Ns) (h:N[i]? =some x) (ha:y.a=x.a) (hc:y.cap=x.cap) (hl:y.Is.length=x.Is.length):(zi2 N).set (i*2) (.int .i64 y.d)=zi2 (N.set i y):=by
 induction N generalizing i with
 |nil=>cases h
 |cons z N ih=>
  have e:∀ (z:Ns) (N:List Ns),zi2 (z::N)=Value.int .i64 z.d:: .slice z.a z.Is.length z.cap::zi2 N:=fun _ _=>rfl;cases i with
  |zero=>
   simp at h
   subst h;rw [e,Nat.zero_mul,List.set_cons_zero,List.set_cons_zero,e,ha,hc,hl]
  |succ i=>
   rw [e,show (i+1)*2=i*2+1+1 by omega,List.set_cons_succ,List.set_cons_succ,List.set_cons_succ,e,ih i (by simpa using h)]
theorem kAt_le (K:Nat) (Is:List It) (hL:∀x∈Is,x.t.L.length≤40):∀i,i≤Is.length→kAt K Is i≤K+201*i:=by
 intro i
 induction i with
 |zero=>intro _;exact Nat.le_refl _
 |succ i ih=>
  intro hi;have hx:Is[i]? =some (Is[i]'(by omega)):=List.getElem?_eq_getElem (by omega);have :=hL _ (List.mem_of_getElem? hx);rw [kAt_succ hx];have :=ih (by omega);omega
theorem kZ_le (K:Nat) (N:List Ns) (hI:∀x∈N,x.Is.length≤12∧∀t∈x.Is,t.t.L.length≤40):∀j,j≤N.length→kZ K N j≤K+2413*j:=by
 intro j
 induction j with
 |zero=>intro _;exact Nat.le_refl _
 |succ j ih=>
  intro hj;have hx:N[j]? =some (N[j]'(by omega)):=List.getElem?_eq_getElem (by omega);have h1:=hI _ (List.mem_of_getElem? hx);rw [kZ_succ hx];have h2:=kAt_le (kZ K N j+1) _ h1.2 _ (Nat.le_refl _);have :=ih (by omega);omega
theorem kZ_ge (K:Nat) (N:List Ns) (j:Nat):K≤kZ K N j:=by
 induction j with
 |zero=>exact Nat.le_refl _
 |succ j ih=>
  rw [kZ]
  split
  ·rename_i x _
   have :=kAt_ge (kZ K N j+1) x.Is x.Is.length;omega
  ·exact ih
end Pl
end Go.Proofs.YtbomeifgfalmdaaGreatDoor
