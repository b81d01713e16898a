/- Several texts of one claim in one file: MapI, MapNv. -/
import Derived.Test.YtgdjjncmocppeaaGreatDoorProg
import Derived.WalkKit
import Derived.Maps.RangeWalk
namespace Go.Proofs.YtgdjjncmocppeaaGreatDoor
section
open Go.RowKit Go.Maps
namespace MapI
def key (d:Int):Lit:= .int .i64 d
def i64 (d:Int):Prop:= -9223372036854775808≤d∧d≤9223372036854775807
theorem wf_of {d:Int} (h:i64 d):(Lit.int .i64 d).wf=true:=by
 obtain ⟨h1,h2⟩:=h;have e1:IntKind.i64.min= -9223372036854775808:=by decide
 have e2:IntKind.i64.max=9223372036854775807:=by decide
 simp only [Lit.wf,e1,e2,Bool.and_eq_true,decide_eq_true_eq];omega
def elem (v:Value):Option (DataW Value × List MemPlace):=some (.held v,[])
def dat (v:Value):DataW Value:= .held v
theorem zt6 (v:Value):elem v=some (dat v,[]):=rfl
theorem zx6 {a b:Value} (h:dat a=dat b):a=b:=by unfold dat at h;exact DataW.held.inj h
def mapOf (C:List (Int × Value)):DataW Value:=C.foldl (fun D n=>D.put (key n.1) (dat n.2)) (.map [])
theorem zy9 (C:List (Int × Value)) (n:Int × Value):mapOf (C++[n])=(mapOf C).put (key n.1) (dat n.2):=by simp [mapOf,List.foldl_append]
theorem key_is (p:Int):WideAt.IsKeyLit (key p):=by simp [key,WideAt.IsKeyLit]
theorem key_ne {a b:Int} (h:a≠b):key a≠key b:=fun e=>h (by unfold key at e;exact (Lit.int.inj e).2)
theorem zz4:∀ (C:List (Int × Value)) (D:DataW Value),IsMap D→IsMap (C.foldl (fun D n=>D.put (key n.1) (dat n.2)) D):=by
 intro C
 induction C with
 |nil=>intro D h;exact h
 |cons n C ih=>intro D h;exact ih _ (h.put _ _)
theorem zo2 (C:List (Int × Value)):IsMap (mapOf C):=zz4 C _ isMap_empty
theorem zn9 (p:Int):∀ (C:List (Int × Value)) (D:DataW Value),(∀n∈C,n.1≠p)→Maps.has (C.foldl (fun D n=>D.put (key n.1) (dat n.2)) D) (key p)=Maps.has D (key p)∧∀z,(C.foldl (fun D n=>D.put (key n.1) (dat n.2)) D).atKey (key p) z=D.atKey (key p) z:=by
 intro C
 induction C with
 |nil=>intro D _;exact ⟨rfl,fun _=>rfl⟩
 |cons n C ih=>
  intro D h;have h1:key p≠key n.1:=key_ne (fun e=>h n List.mem_cons_self e.symm);obtain ⟨i1,i2⟩:=ih (D.put (key n.1) (dat n.2)) (fun m hm=>h m (List.mem_cons_of_mem _ hm));refine ⟨?_,fun z=>?_⟩
  ·show Maps.has (C.foldl _ (D.put (key n.1) (dat n.2))) (key p)=_;rw [i1,has_put_other h1]
  ·show (C.foldl _ (D.put (key n.1) (dat n.2))).atKey (key p) z=_;rw [i2,atKey_put_other h1]
theorem has_no {C:List (Int × Value)} {p:Int} (h:p∉C.map (·.1)):Maps.has (mapOf C) (key p)=false:=by
 rw [mapOf,(zn9 p C _ (fun n hn e=>h (List.mem_map.2 ⟨n,hn,e⟩))).1];rfl
theorem at_no {C:List (Int × Value)} {p:Int} (h:p∉C.map (·.1)) (z:DataW Value):(mapOf C).atKey (key p) z=z:=by
 rw [mapOf,(zn9 p C _ (fun n hn e=>h (List.mem_map.2 ⟨n,hn,e⟩))).2];rfl
theorem at_yes {C:List (Int × Value)} {n:Int × Value} (hC:C.Pairwise (fun a b=>a.1≠b.1)) (hn:n∈C):Maps.has (mapOf C) (key n.1)=true∧∀z,(mapOf C).atKey (key n.1) z=dat n.2:=by
 obtain ⟨A,B,rfl⟩:=List.append_of_mem hn;rw [List.pairwise_append] at hC;have h2:=(List.pairwise_cons.1 hC.2.1).1;have e:mapOf (A++n::B)=B.foldl (fun D n=>D.put (key n.1) (dat n.2)) ((mapOf A).put (key n.1) (dat n.2)):=by simp [mapOf,List.foldl_append]
 obtain ⟨i1,i2⟩:=zn9 n.1 B ((mapOf A).put (key n.1) (dat n.2)) (fun m hm e=>h2 m hm e.symm);rw [e];exact ⟨by rw [i1,has_put_same (zo2 A) (key_is _)],fun z=>by rw [i2,atKey_put_same (zo2 A) (key_is _)]⟩
def getV (C:List (Int × Value)) (d:Int) (z:Value):Value:=match C.find? (fun n=>decide (n.1=d)) with |some n=>n.2|none=>z
theorem look {C:List (Int × Value)} (hC:C.Pairwise (fun a b=>a.1≠b.1)) (d:Int) (z:Value):Maps.has (mapOf C) (key d)=decide (d∈C.map (·.1))∧(mapOf C).atKey (key d) (dat z)=dat (getV C d z):=by
 unfold getV;by_cases h:d∈C.map (·.1)
 ·obtain ⟨n,hn,rfl⟩:=List.mem_map.1 h;obtain ⟨h1,h2⟩:=at_yes hC hn;rw [h1,h2];refine ⟨by simp [h],?_⟩;cases hf:C.find? (fun m=>decide (m.1=n.1)) with
  |none=>exact absurd (List.find?_eq_none.1 hf n hn) (by simp)
  |some m=>
   have h3:=List.find?_some hf;have h4:=List.mem_of_find?_eq_some hf
   have e:m=n:=by
    by_cases e:m=n
    ·exact e
    ·exfalso;obtain ⟨i,hi,e1⟩:=List.mem_iff_getElem.1 hn;obtain ⟨j,hj,e2⟩:=List.mem_iff_getElem.1 h4;have h5:=List.pairwise_iff_getElem.1 hC
     rcases Nat.lt_trichotomy i j with hij|hij|hij
     ·exact h5 i j hi hj hij (by rw [e1,e2];exact (of_decide_eq_true h3).symm)
     ·subst hij;exact e (e2.symm.trans e1)
     ·exact h5 j i hj hi hij (by rw [e1,e2];exact of_decide_eq_true h3)
   subst e;rfl
 ·rw [has_no h,at_no h];refine ⟨by simp [h],?_⟩;cases hf:C.find? (fun m=>decide (m.1=d)) with
  |none=>rfl
  |some m=>have h3:=List.find?_some hf;simp only [decide_eq_true_eq] at h3;exact absurd (List.mem_map.2 ⟨m,List.mem_of_find?_eq_some hf,h3⟩) h
theorem law:Keyed Tryz.prog 2:=int_keyed Tryz.underlying2
theorem zl8 {d:Int} (h:i64 d):keyOf Tryz.prog 2 (.int .i64 d)=some (key d):=keyOf_int_mk Tryz.underlying2 (wf_of h)
theorem look_ok {P:Program} (w:World) {ops:Array Oper} {rest:List Oper} {o:Oper} {a:Act} {Q:Exit→Act→World→Prop} (hg:o.guard=none) (m x:Operand) (t:TypeId) (hop:o.op=Op.lookup t m x true)
  (k e:TypeId) (K:Keyed P k) (ht:P.underlying t=some (.map k e)) (z:Value) (hz:(zeroValue e).run P w= .ok z w) (b n:Nat) (D:DataW Value)
  (hm:a.eval m= .map (some b)) (hown:w.ownsMap P k elem b n D) (kv:Value) (kl:Lit) (hx:a.eval x=kv) (hkey:keyOf P k kv=some kl) (v:Value) (hat:D.atKey kl (dat z)=dat v) (r:Bool) (hr:Maps.has D kl=r)
  (hK:wpList P ops Q rest (a.put o.dst (.tuple #[v, .bool r])) w):
  wpList P ops Q (o::rest) a w:=by
 refine wpList_plain hg fun K' hK'=>?_;obtain ⟨v1,ps,hrun,hv⟩:=hown.look_ok K ht hz (zt6 _) hkey
 have hd:v1=v:=by
  unfold elem at hv;simp only [Option.some.injEq,Prod.mk.injEq] at hv;rw [hat] at hv;exact zx6 hv.1
 subst hd;subst hr;unfold Oper.wp;simp [execOp,hop,hm,hx,hrun,Result.andThen]
 exact hK' _ _ hK
theorem ze4 {w w':World} {B n:Nat} {D:DataW Value} (h:w.ownsMap Tryz.prog 2 elem B n D) (b:Below w.heap.size w w'):w'.ownsMap Tryz.prog 2 elem B n D:=
 h.kept (row:=none) ⟨b.os,b.tape,b.output,b.size,fun j hj _=>b.block j hj⟩ (by simp)
end MapI
end
section
open Go.RowKit Go.Maps
namespace Pl
structure Nv where
 m:Option Nat
 n:Nat
 a:Option Addr
 cap:Nat
def Nv.val (x:Nv):Value:= .agg #[.map x.m, .int .i64 (x.n:Int), .slice x.a x.n x.cap]
def vals (E:List (Int × Nv)):List (Int × Value):=E.map (fun x=>(x.1,x.2.val))
def getN (E:List (Int × Nv)) (d:Int):Nv:=match E.find? (fun x=>decide (x.1=d)) with |some x=>x.2|none=>⟨none,0,none,0⟩
theorem vals_ids (E:List (Int × Nv)):(vals E).map (·.1)=E.map (·.1):=by simp [vals,List.map_map]
theorem vals_apart {E:List (Int × Nv)} (h:E.Pairwise (fun a b=>a.1≠b.1)):(vals E).Pairwise (fun a b=>a.1≠b.1):=by
 unfold vals;rw [List.pairwise_map];exact h
theorem get_vals (E:List (Int × Nv)) (d:Int):MapI.getV (vals E) d (Nv.val ⟨none,0,none,0⟩)=(getN E d).val:=by
 unfold MapI.getV getN vals;rw [List.find?_map];have e:((fun n:Int × Value=>decide (n.1=d)) ∘ fun x:Int × Nv=>(x.1,x.2.val))=fun x=>decide (x.1=d):=rfl;rw [e];cases E.find? (fun x=>decide (x.1=d)) <;> rfl
theorem zw3 {E:List (Int × Nv)} (h:E.Pairwise (fun a b=>a.1≠b.1)) (d:Int):Maps.has (MapI.mapOf (vals E)) (MapI.key d)=decide (d∈E.map (·.1))∧(MapI.mapOf (vals E)).atKey (MapI.key d) (MapI.dat (Nv.val ⟨none,0,none,0⟩))=MapI.dat (.agg #[.map (getN E d).m, .int .i64 ((getN E d).n:Int), .slice (getN E d).a (getN E d).n (getN E d).cap]):=by
 have h1:=MapI.look (vals_apart h) d (Nv.val ⟨none,0,none,0⟩);rw [vals_ids,get_vals] at h1;exact h1
theorem zu5 (w:World):(zeroValue 171).run Tryz.prog w= .ok (Nv.val ⟨none,0,none,0⟩) w:=by kernel_rfl
end Pl
end
end Go.Proofs.YtgdjjncmocppeaaGreatDoor
