import Derived.Test.YtpggbphcbcogdaaGreatDoorPlainGlue
import Derived.Test.YtpggbphcbcogdaaGreatDoorPlainNode
import Derived.Test.YtpggbphcbcogdaaGreatDoorProg
import Derived.Below
import Derived.Maps.OwnSet
namespace Go.Proofs.YtpggbphcbcogdaaGreatDoor
open Go.RowKit Go.Maps
namespace MapN
def key (p:ByteArray):Lit:= .string p.data.toList
def dat (n:Pl.Nd):DataW Unit:= .agg [.lit (.string n.path.data.toList), .lit (.int .i64 n.kind), .lit (.string n.data.data.toList), .lit (.int .i64 n.time), .lit (.int .i64 n.mark)]
theorem dat_inj {a b:Pl.Nd} (h:dat a=dat b):a=b:=by
 obtain ⟨p,k,d,t,m⟩:=a;obtain ⟨p',k',d',t',m'⟩:=b;simp only [dat,DataW.agg.injEq,List.cons.injEq,DataW.lit.injEq,Lit.string.injEq,Lit.int.injEq,and_true,true_and] at h;obtain ⟨h1,h2,h3,h4,h5⟩:=h;have e1:p=p':=Pl.zh7 h1;have e2:d=d':=Pl.zh7 h3;subst e1 e2 h2 h4 h5;rfl
def elem:Value→Option (DataW Unit × List MemPlace)
 | .agg cs=>match cs.toList with
  | [.string p, .int .i64 k, .string d, .int .i64 t, .int .i64 m]=>some (dat ⟨p,k,d,t,m⟩,[])
  |_=>none
 |_=>none
theorem elem_mk (n:Pl.Nd):elem n.val=some (dat n,[]):=rfl
theorem elem_inv {v:Value} {d:DataW Unit} {ps:List MemPlace} (h:elem v=some (d,ps)):∃n:Pl.Nd,v=n.val∧d=dat n:=by
 unfold elem at h
 split at h
 ·rename_i cs
  split at h
  ·rename_i p k d' t m hcs
   simp only [Option.some.injEq,Prod.mk.injEq] at h;refine ⟨⟨p,k,d',t,m⟩,?_,h.1.symm⟩;rw [Pl.Nd.val,show cs=cs.toList.toArray by simp,hcs]
  ·cases h
 ·cases h
def mapOf (C:List Pl.Nd):DataW Unit:=C.foldl (fun D n=>D.put (key n.path) (dat n)) (.map [])
theorem mapOf_snoc (C:List Pl.Nd) (n:Pl.Nd):mapOf (C++[n])=(mapOf C).put (key n.path) (dat n):=by simp [mapOf,List.foldl_append]
theorem key_is (p:ByteArray):WideAt.IsKeyLit (key p):=by simp [key,WideAt.IsKeyLit]
theorem key_ne {a b:ByteArray} (h:a≠b):key a≠key b:=fun e=>h (Pl.zh7 (Lit.string.inj e))
theorem isMap_fold:∀ (C:List Pl.Nd) (D:DataW Unit),IsMap D→IsMap (C.foldl (fun D n=>D.put (key n.path) (dat n)) D):=by
 intro C
 induction C with
 |nil=>intro D h;exact h
 |cons n C ih=>intro D h;exact ih _ (h.put _ _)
theorem zw (C:List Pl.Nd):IsMap (mapOf C):=isMap_fold C _ isMap_empty
theorem zs8 (p:ByteArray):∀ (C:List Pl.Nd) (D:DataW Unit),(∀n∈C,n.path≠p)→Maps.has (C.foldl (fun D n=>D.put (key n.path) (dat n)) D) (key p)=Maps.has D (key p)∧∀z,(C.foldl (fun D n=>D.put (key n.path) (dat n)) D).atKey (key p) z=D.atKey (key p) z:=by
 intro C
 induction C with
 |nil=>intro D _;exact ⟨rfl,fun _=>rfl⟩
 |cons n C ih=>
  intro D h;have h1:key p≠key n.path:=key_ne (fun e=>h n List.mem_cons_self e.symm);obtain ⟨i1,i2⟩:=ih (D.put (key n.path) (dat n)) (fun m hm=>h m (List.mem_cons_of_mem _ hm));refine ⟨?_,fun z=>?_⟩
  ·show Maps.has (C.foldl _ (D.put (key n.path) (dat n))) (key p)=_;rw [i1,has_put_other h1]
  ·show (C.foldl _ (D.put (key n.path) (dat n))).atKey (key p) z=_;rw [i2,atKey_put_other h1]
theorem has_no {C:List Pl.Nd} {p:ByteArray} (h:∀n∈C,n.path≠p):Maps.has (mapOf C) (key p)=false:=by
 rw [mapOf,(zs8 p C _ h).1];rfl
theorem at_yes {C:List Pl.Nd} {n:Pl.Nd} (hC:C.Pairwise (fun a b=>a.path≠b.path)) (hn:n∈C):Maps.has (mapOf C) (key n.path)=true∧∀z,(mapOf C).atKey (key n.path) z=dat n:=by
 obtain ⟨A,B,rfl⟩:=List.append_of_mem hn;rw [List.pairwise_append] at hC;have h2:=(List.pairwise_cons.1 hC.2.1).1;have e:mapOf (A++n::B)=B.foldl (fun D n=>D.put (key n.path) (dat n)) ((mapOf A).put (key n.path) (dat n)):=by simp [mapOf,List.foldl_append]
 obtain ⟨i1,i2⟩:=zs8 n.path B ((mapOf A).put (key n.path) (dat n)) (fun m hm e=>h2 m hm e.symm);rw [e];exact ⟨by rw [i1,has_put_same (zw A) (key_is _)],fun z=>by rw [i2,atKey_put_same (zw A) (key_is _)]⟩
theorem law:Keyed Tryz.prog 9:=string_keyed Tryz.underlying9
theorem za3 (w:World):(zeroValue 42).run Tryz.prog w= .ok (Pl.Nd.val ⟨⟨#[]⟩,0,⟨#[]⟩,0,0⟩) w:=by kernel_rfl
theorem keyOf_mk {p:ByteArray} (h:p.size≤maxLen):keyOf Tryz.prog 9 (.string p)=some (key p):=WideMaps.keyOf_string_mk Tryz.underlying9 h
end MapN
end Go.Proofs.YtpggbphcbcogdaaGreatDoor
