/- Several texts of one claim in one file: WSpI2, MapI, MapNv, WWords, WName, MemTexts. -/
import Derived.Test.YtonffldjbmednaaGreatDoorG00
import Derived.Test.YtonffldjbmednaaGreatDoorG02
import Derived.Test.YtonffldjbmednaaGreatDoorG03
import Derived.Test.YtonffldjbmednaaGreatDoorProg
import Derived.Outline
import Derived.Deep.QuietTactic
import Derived.BigQuiet
import Derived.Laws.AppendOwnNone
import Derived.Laws.BitsAllLaws
import Derived.Below
import Derived.WalkKit
import Derived.Laws.IdiomStrings
import Derived.Maps.OwnSet
import Derived.Maps.RangeWalk
import Derived.WalkSpells
import Derived.Lib.OthersKept
import Derived.Laws.RangeAny
import Derived.Deep.Draws
namespace Go.Proofs.YtonffldjbmednaaGreatDoor
section
set_option linter.unusedSimpArgs false
open Go.RowKit
namespace Pl
def idxF {α:Type} (f:α→Bool):List α→Int
 | []=> -1
 |x::r=>if f x then 0 else (if idxF f r<0 then -1 else idxF f r+1)
theorem idx_at {α:Type} {f:α→Bool} {l:List α} {k:Nat} {x:α} (h:l[k]? =some x) (hx:f x=true) (hn:∀ (j:Nat) y,j<k→l[j]? =some y→f y=false):idxF f l=(k:Int):=by
 induction l generalizing k with
 |nil=>simp at h
 |cons y r ih=>
  rw [idxF];cases k with
  |zero=>simp at h;subst h;rw [if_pos hx];rfl
  |succ k=>
   have h0:f y=false:=hn 0 y (by omega) rfl;have :=ih (k:=k) (by simpa using h) (fun j z hj hz=>hn (j+1) z (by omega) (by simpa using hz));rw [if_neg (by simp [h0]),this,if_neg (by omega)];omega
theorem idx_no {α:Type} {f:α→Bool} {l:List α} (hn:∀ (j:Nat) y,l[j]? =some y→f y=false):idxF f l= -1:=by
 induction l with
 |nil=>rfl
 |cons y r ih=>
  have h0:f y=false:=hn 0 y rfl;have :=ih (fun j z hz=>hn (j+1) z (by simpa using hz));rw [idxF,if_neg (by simp [h0]),this];rfl
theorem idx_any {α:Type} (f:α→Bool) (l:List α):decide (0≤idxF f l)=l.any f:=by
 induction l with
 |nil=>rfl
 |cons y r ih=>
  rw [idxF,List.any_cons];cases h:f y
  ·rw [if_neg (by simp),Bool.false_or,←ih]
   split
   ·rename_i h2;rw [decide_eq_decide];omega
   ·rename_i h2;rw [decide_eq_decide];omega
  ·rfl
end Pl
namespace WSpI
set_option maxRecDepth 100000 in
set_option maxHeartbeats 800000 in
theorem index_any (K:FuncId) (c:Value) (f:Pl.Mn→Bool) (a:Option Addr) (cap:Nat) (M:List Pl.Mn) (w:World) (hl:M.length≤1048576) (hv:Mem.zb2 w a M)
  (hE:∀ (t:Pl.Mn) W,(callFunc K #[.agg #[.string t.p, .int .i64 t.i, .bool t.z],c]).run Tryz.prog W= .ok (.enter K #[.agg #[.string t.p, .int .i64 t.i, .bool t.z],c]) W)
  (hK:∀t∈M,∀W,Below w.heap.size w W→Calls Tryz.prog K #[.agg #[.string t.p, .int .i64 t.i, .bool t.z],c] W fun e w'=>e= .returned (.bool (f t))∧Below W.heap.size W w'):
  Calls Tryz.prog 117 #[.slice a M.length cap, .func (.func K) #[] #[c]] w fun e w'=>e= .returned (.int .i64 (Pl.idxF f M))∧Below w.heap.size w w':=by
 have HX:=hide hv;have HK:=hide hK;have HAT:=hide (fun (k:Nat) (x:Pl.Mn)=>Pl.idx_at (f:=f) (l:=M) (k:=k) (x:=x));have HNO:=hide (Pl.idx_no (f:=f) (l:=M));generalize Pl.idxF f M=R at HAT HNO ⊢;clear hv hK;go_enter Tryz.func117,Tryz.ntmps117
 go_wp2
 go_loopw [8] (fun i wr=>∃k:Nat,k≤M.length∧i= .int .i64 (k:Int)∧Below w.heap.size w wr∧Hid (∀ (j:Nat) y,j<k→M[j]? =some y→f y=false)) (fun i _=>M.length - (intOf i).toNat)
 case atStart=>exact ⟨0,Nat.zero_le _,rfl,Below.refl _ _,fun j y h=>absurd h (by omega)⟩
 case round=>
  obtain ⟨k,hk,rfl,hbel,HA⟩:=hrel;by_cases hlt:k<M.length
  ·obtain ⟨t,ht⟩:∃n,M[k]? =some n:=⟨_,List.getElem?_eq_getElem hlt⟩;obtain ⟨g,o,rfl,hg,q0,q1,q2⟩:=(za HX) k t ht;have c0:=(hbel.cell (p:=⟨g,_,none⟩) hg).trans q0;have c1:=(hbel.cell (p:=⟨g,_,none⟩) hg).trans q1;have c2:=(hbel.cell (p:=⟨g,_,none⟩) hg).trans q2;have u1:(k:Int)<(M.length:Int):=by omega
   have u3:(0:Int)≤(k:Int):=by omega
   have hc:=hide (za HK t (List.mem_of_getElem? ht) wr hbel);have HT:=hide ht;have hE1:=hE t;clear q0 q1 q2 ht;go_wp2_with fail
   refine (za hc).mono ?_;rintro e w1 ⟨rfl,bX⟩;have b1:=hbel.trans (bX.mono hbel.size);cases hf:f t
   ·have HA2:Hid (∀ (j:Nat) y,j<k+1→M[j]? =some y→f y=false):=fun j y hj hy=>by
     rcases Nat.lt_succ_iff_lt_or_eq.1 hj with h|h
     ·exact za HA j y h hy
     ·subst h;rw [za HT] at hy;cases hy;exact hf
    go_wp2
    go_roundw
    case rel=>exact ⟨k+1,by omega,by go_num,b1,HA2⟩
    case measure=>simp [intOf];omega
   ·have e0:=hide (za HAT k t (za HT) hf (za HA));go_wp2
    go_ret
    exact ⟨by rw [za e0];rfl,b1⟩
  ·have u1:¬ (k:Int)<(M.length:Int):=by omega
   have e0:=hide (za HNO (fun j y hy=>za HA j y (by have :=(List.getElem?_eq_some_iff.1 hy).1;omega) hy));go_wp2
   go_ret
   exact ⟨by rw [za e0];rfl,hbel⟩
set_option maxRecDepth 100000 in
theorem contains_any (K:FuncId) (c:Value) (f:Pl.Mn→Bool) (a:Option Addr) (cap:Nat) (M:List Pl.Mn) (w:World) (hl:M.length≤1048576) (hv:Mem.zb2 w a M)
  (hE:∀ (t:Pl.Mn) W,(callFunc K #[.agg #[.string t.p, .int .i64 t.i, .bool t.z],c]).run Tryz.prog W= .ok (.enter K #[.agg #[.string t.p, .int .i64 t.i, .bool t.z],c]) W)
  (hK:∀t∈M,∀W,Below w.heap.size w W→Calls Tryz.prog K #[.agg #[.string t.p, .int .i64 t.i, .bool t.z],c] W fun e w'=>e= .returned (.bool (f t))∧Below W.heap.size W w'):
  Calls Tryz.prog 83 #[.slice a M.length cap, .func (.func K) #[] #[c]] w fun e w'=>e= .returned (.bool (M.any f))∧Below w.heap.size w w':=by
 have hi:=hide (index_any K c f a cap M w hl hv hE hK);have HA:=hide (Pl.idx_any f M);generalize Pl.idxF f M=R at hi HA;generalize M.any f=B at HA ⊢;clear hE hK hv;go_enter Tryz.func83,Tryz.ntmps83
 go_wp2_with fail
 refine (za hi).mono ?_;rintro e w1 ⟨rfl,bX⟩;go_wp2
 go_ret
 exact ⟨by rw [←za HA];rfl,bX⟩
def other (m o:Pl.Mn):Bool:= !(decide (o.p=m.p)&&decide (o.i=m.i)&&decide (o.z=m.z))&&decide (o.i=m.i)
set_option maxRecDepth 100000 in
set_option maxHeartbeats 800000 in
theorem other_any (m o:Pl.Mn) (X:Nat) (w:World) (hX:Mem.Blk w X #[.string m.p, .int .i64 m.i, .bool m.z] 50):
  Calls Tryz.prog 145 #[.agg #[.string o.p, .int .i64 o.i, .bool o.z], .pointer (some ⟨X,0,none⟩)] w fun e w'=>e= .returned (.bool (other m o))∧Below w.heap.size w w':=by
 have b0:=(Below.refl w.heap.size w).alloc (o:= .cells #[.string o.p, .int .i64 o.i, .bool o.z] 50) (Nat.le_refl _);have V:=Mem.Blk.new w #[.string o.p, .int .i64 o.i, .bool o.z] 50;have Y:=hX.alloc (.cells #[.string o.p, .int .i64 o.i, .bool o.z] 50);have a0:=V.cell 0;have a1:=V.cell 1;have a2:=V.cell 2;have y0:=Y.cell 0;have y1:=Y.cell 1;have y2:=Y.cell 2;simp only [kGs] at a0 a1 a2 y0 y1 y2;clear V Y hX;obtain ⟨op,oi,oz⟩:=o;obtain ⟨mp,mi,mz⟩:=m;simp only at a0 a1 a2 y0 y1 y2 b0 ⊢;by_cases hi:oi=mi
 ·subst hi;by_cases hp:op=mp
  ·subst hp;by_cases hz:oz=mz
   ·subst hz;have e0:other ⟨op,oi,oz⟩ ⟨op,oi,oz⟩=false:=by simp [other]
    rw [e0];go_enter Tryz.func145,Tryz.ntmps145
    go_wp2
    go_ret
    exact ⟨rfl,b0⟩
   ·have e0:other ⟨op,oi,mz⟩ ⟨op,oi,oz⟩=true:=by simp [other,hz]
    rw [e0];have hz1:(oz==mz)=false:=by simpa using hz
    go_enter Tryz.func145,Tryz.ntmps145
    go_wp2
    go_ret
    exact ⟨rfl,b0⟩
  ·have e0:other ⟨mp,oi,mz⟩ ⟨op,oi,oz⟩=true:=by simp [other,hp]
   rw [e0];have hp1:=Pl.zr4 hp;go_enter Tryz.func145,Tryz.ntmps145
   go_wp2
   go_ret
   exact ⟨rfl,b0⟩
 ·have e0:other ⟨mp,mi,mz⟩ ⟨op,oi,oz⟩=false:=by simp [other,hi]
  rw [e0];have hi1:(oi==mi)=false:=by simpa using hi
  go_enter Tryz.func145,Tryz.ntmps145
  go_wp2
  go_ret
  exact ⟨rfl,b0⟩
end WSpI
end
section
open Go.RowKit Go.Maps
namespace MapI
def key (d:Int):Lit:= .int .i64 d
def i64 (d:Int):Prop:= -9223372036854775808≤d∧d≤9223372036854775807
theorem wf_of {d:Int} (h:i64 d):(Lit.int .i64 d).wf=true:=by
 obtain ⟨h1,h2⟩:=h;have e1:IntKind.i64.min= -9223372036854775808:=by decide
 have e2:IntKind.i64.max=9223372036854775807:=by decide
 simp only [Lit.wf,e1,e2,Bool.and_eq_true,decide_eq_true_eq];omega
def elem (v:Value):Option (DataW Value × List MemPlace):=some (.held v,[])
def dat (v:Value):DataW Value:= .held v
theorem zn8 (v:Value):elem v=some (dat v,[]):=rfl
theorem zo {a b:Value} (h:dat a=dat b):a=b:=by unfold dat at h;exact DataW.held.inj h
def mapOf (C:List (Int × Value)):DataW Value:=C.foldl (fun D n=>D.put (key n.1) (dat n.2)) (.map [])
theorem zu8 (C:List (Int × Value)) (n:Int × Value):mapOf (C++[n])=(mapOf C).put (key n.1) (dat n.2):=by simp [mapOf,List.foldl_append]
theorem zp1 (p:Int):WideAt.IsKeyLit (key p):=by simp [key,WideAt.IsKeyLit]
theorem key_ne {a b:Int} (h:a≠b):key a≠key b:=fun e=>h (by unfold key at e;exact (Lit.int.inj e).2)
theorem zu7:∀ (C:List (Int × Value)) (D:DataW Value),IsMap D→IsMap (C.foldl (fun D n=>D.put (key n.1) (dat n.2)) D):=by
 intro C
 induction C with
 |nil=>intro D h;exact h
 |cons n C ih=>intro D h;exact ih _ (h.put _ _)
theorem zl3 (C:List (Int × Value)):IsMap (mapOf C):=zu7 C _ isMap_empty
theorem zi6 (p:Int):∀ (C:List (Int × Value)) (D:DataW Value),(∀n∈C,n.1≠p)→Maps.has (C.foldl (fun D n=>D.put (key n.1) (dat n.2)) D) (key p)=Maps.has D (key p)∧∀z,(C.foldl (fun D n=>D.put (key n.1) (dat n.2)) D).atKey (key p) z=D.atKey (key p) z:=by
 intro C
 induction C with
 |nil=>intro D _;exact ⟨rfl,fun _=>rfl⟩
 |cons n C ih=>
  intro D h;have h1:key p≠key n.1:=key_ne (fun e=>h n List.mem_cons_self e.symm);obtain ⟨i1,i2⟩:=ih (D.put (key n.1) (dat n.2)) (fun m hm=>h m (List.mem_cons_of_mem _ hm));refine ⟨?_,fun z=>?_⟩
  ·show Maps.has (C.foldl _ (D.put (key n.1) (dat n.2))) (key p)=_;rw [i1,has_put_other h1]
  ·show (C.foldl _ (D.put (key n.1) (dat n.2))).atKey (key p) z=_;rw [i2,atKey_put_other h1]
theorem has_no {C:List (Int × Value)} {p:Int} (h:p∉C.map (·.1)):Maps.has (mapOf C) (key p)=false:=by
 rw [mapOf,(zi6 p C _ (fun n hn e=>h (List.mem_map.2 ⟨n,hn,e⟩))).1];rfl
theorem at_no {C:List (Int × Value)} {p:Int} (h:p∉C.map (·.1)) (z:DataW Value):(mapOf C).atKey (key p) z=z:=by
 rw [mapOf,(zi6 p C _ (fun n hn e=>h (List.mem_map.2 ⟨n,hn,e⟩))).2];rfl
theorem zr6 {C:List (Int × Value)} {n:Int × Value} (hC:C.Pairwise (fun a b=>a.1≠b.1)) (hn:n∈C):Maps.has (mapOf C) (key n.1)=true∧∀z,(mapOf C).atKey (key n.1) z=dat n.2:=by
 obtain ⟨A,B,rfl⟩:=List.append_of_mem hn;rw [List.pairwise_append] at hC;have h2:=(List.pairwise_cons.1 hC.2.1).1;have e:mapOf (A++n::B)=B.foldl (fun D n=>D.put (key n.1) (dat n.2)) ((mapOf A).put (key n.1) (dat n.2)):=by simp [mapOf,List.foldl_append]
 obtain ⟨i1,i2⟩:=zi6 n.1 B ((mapOf A).put (key n.1) (dat n.2)) (fun m hm e=>h2 m hm e.symm);rw [e];exact ⟨by rw [i1,has_put_same (zl3 A) (zp1 _)],fun z=>by rw [i2,atKey_put_same (zl3 A) (zp1 _)]⟩
def getV (C:List (Int × Value)) (d:Int) (z:Value):Value:=match C.find? (fun n=>decide (n.1=d)) with |some n=>n.2|none=>z
theorem look {C:List (Int × Value)} (hC:C.Pairwise (fun a b=>a.1≠b.1)) (d:Int) (z:Value):Maps.has (mapOf C) (key d)=decide (d∈C.map (·.1))∧(mapOf C).atKey (key d) (dat z)=dat (getV C d z):=by
 unfold getV;by_cases h:d∈C.map (·.1)
 ·obtain ⟨n,hn,rfl⟩:=List.mem_map.1 h;obtain ⟨h1,h2⟩:=zr6 hC hn;rw [h1,h2];refine ⟨by simp [h],?_⟩;cases hf:C.find? (fun m=>decide (m.1=n.1)) with
  |none=>exact absurd (List.find?_eq_none.1 hf n hn) (by simp)
  |some m=>
   have h3:=List.find?_some hf;have h4:=List.mem_of_find?_eq_some hf
   have e:m=n:=by
    by_cases e:m=n
    ·exact e
    ·exfalso;obtain ⟨i,hi,e1⟩:=List.mem_iff_getElem.1 hn;obtain ⟨j,hj,e2⟩:=List.mem_iff_getElem.1 h4;have h5:=List.pairwise_iff_getElem.1 hC
     rcases Nat.lt_trichotomy i j with hij|hij|hij
     ·exact h5 i j hi hj hij (by rw [e1,e2];exact (of_decide_eq_true h3).symm)
     ·subst hij;exact e (e2.symm.trans e1)
     ·exact h5 j i hj hi hij (by rw [e1,e2];exact of_decide_eq_true h3)
   subst e;rfl
 ·rw [has_no h,at_no h];refine ⟨by simp [h],?_⟩;cases hf:C.find? (fun m=>decide (m.1=d)) with
  |none=>rfl
  |some m=>have h3:=List.find?_some hf;simp only [decide_eq_true_eq] at h3;exact absurd (List.mem_map.2 ⟨m,List.mem_of_find?_eq_some hf,h3⟩) h
theorem law:Keyed Tryz.prog 2:=int_keyed Tryz.underlying2
theorem zk1 {d:Int} (h:i64 d):keyOf Tryz.prog 2 (.int .i64 d)=some (key d):=keyOf_int_mk Tryz.underlying2 (wf_of h)
theorem look_ok {P:Program} (w:World) {ops:Array Oper} {rest:List Oper} {o:Oper} {a:Act} {Q:Exit→Act→World→Prop} (hg:o.guard=none) (m x:Operand) (t:TypeId) (hop:o.op=Op.lookup t m x true)
  (k e:TypeId) (K:Keyed P k) (ht:P.underlying t=some (.map k e)) (z:Value) (hz:(zeroValue e).run P w= .ok z w) (b n:Nat) (D:DataW Value)
  (hm:a.eval m= .map (some b)) (hown:w.ownsMap P k elem b n D) (kv:Value) (kl:Lit) (hx:a.eval x=kv) (hkey:keyOf P k kv=some kl) (v:Value) (hat:D.atKey kl (dat z)=dat v) (r:Bool) (hr:Maps.has D kl=r)
  (hK:wpList P ops Q rest (a.put o.dst (.tuple #[v, .bool r])) w):
  wpList P ops Q (o::rest) a w:=by
 refine wpList_plain hg fun K' hK'=>?_;obtain ⟨v1,ps,hrun,hv⟩:=hown.look_ok K ht hz (zn8 _) hkey
 have hd:v1=v:=by
  unfold elem at hv;simp only [Option.some.injEq,Prod.mk.injEq] at hv;rw [hat] at hv;exact zo hv.1
 subst hd;subst hr;unfold Oper.wp;simp [execOp,hop,hm,hx,hrun,Result.andThen]
 exact hK' _ _ hK
theorem ze3 {w w':World} {B n:Nat} {D:DataW Value} (h:w.ownsMap Tryz.prog 2 elem B n D) (b:Below w.heap.size w w'):w'.ownsMap Tryz.prog 2 elem B n D:=
 h.kept (row:=none) ⟨b.os,b.tape,b.output,b.size,fun j hj _=>b.block j hj⟩ (by simp)
end MapI
end
section
open Go.RowKit Go.Maps
namespace Pl
structure Nv where
 m:Option Nat
 n:Nat
 a:Option Addr
 cap:Nat
def Nv.val (x:Nv):Value:= .agg #[.map x.m, .int .i64 (x.n:Int), .slice x.a x.n x.cap]
def vals (E:List (Int × Nv)):List (Int × Value):=E.map (fun x=>(x.1,x.2.val))
def getN (E:List (Int × Nv)) (d:Int):Nv:=match E.find? (fun x=>decide (x.1=d)) with |some x=>x.2|none=>⟨none,0,none,0⟩
theorem zn6 (E:List (Int × Nv)):(vals E).map (·.1)=E.map (·.1):=by simp [vals,List.map_map]
theorem zv6 {E:List (Int × Nv)} (h:E.Pairwise (fun a b=>a.1≠b.1)):(vals E).Pairwise (fun a b=>a.1≠b.1):=by
 unfold vals;rw [List.pairwise_map];exact h
theorem get_vals (E:List (Int × Nv)) (d:Int):MapI.getV (vals E) d (Nv.val ⟨none,0,none,0⟩)=(getN E d).val:=by
 unfold MapI.getV getN vals;rw [List.find?_map];have e:((fun n:Int × Value=>decide (n.1=d)) ∘ fun x:Int × Nv=>(x.1,x.2.val))=fun x=>decide (x.1=d):=rfl;rw [e];cases E.find? (fun x=>decide (x.1=d)) <;> rfl
theorem zs4 {E:List (Int × Nv)} (h:E.Pairwise (fun a b=>a.1≠b.1)) (d:Int):Maps.has (MapI.mapOf (vals E)) (MapI.key d)=decide (d∈E.map (·.1))∧(MapI.mapOf (vals E)).atKey (MapI.key d) (MapI.dat (Nv.val ⟨none,0,none,0⟩))=MapI.dat (.agg #[.map (getN E d).m, .int .i64 ((getN E d).n:Int), .slice (getN E d).a (getN E d).n (getN E d).cap]):=by
 have h1:=MapI.look (zv6 h) d (Nv.val ⟨none,0,none,0⟩);rw [zn6,get_vals] at h1;exact h1
theorem zr7 (w:World):(zeroValue 121).run Tryz.prog w= .ok (Nv.val ⟨none,0,none,0⟩) w:=by kernel_rfl
end Pl
end
section
open Go.RowKit
namespace Pl
theorem get_ge (s : ByteArray) (k : Nat) (h : k < s.size) : s.get! k = s[k] := by
  simp [ByteArray.get!, getElem!_pos, h]; rfl
theorem rune_other (s : ByteArray) (pos : Nat) (h : pos < s.size) (hb : s[pos].toNat ≠ 47) :
    ((Utf8.decode s pos).1 ≠ 47) ∧ 1 ≤ (Utf8.decode s pos).2 ∧ pos + (Utf8.decode s pos).2 ≤ s.size ∧ ∀ j (hj : j < s.size), pos ≤ j → j < pos + (Utf8.decode s pos).2 → s[j].toNat ≠ 47 := by
  by_cases ha : s[pos].toNat < 128
  · rw [decode_ascii s pos h ha]
    refine ⟨hb, Nat.le_refl _, h, fun j hj h1 h2 => ?_⟩
    obtain rfl : j = pos := by simp at h2; omega
    exact hb
  · have hh := decode_high s pos h (by omega)
    refine ⟨by omega, hh.2, ?_⟩
    have hg := get_ge s
    have key : pos + (Utf8.decode s pos).2 ≤ s.size ∧ ∀ k, 1 ≤ k → k < (Utf8.decode s pos).2 → (s.get! (pos + k)).toNat / 64 = 2 := by
      have h0 : s.get! (pos + 0) = s[pos] := hg pos h
      simp only [Utf8.decode, h0, ha, if_false]
      repeat' split
      all_goals simp_all
      all_goals first
        | omega
        | (refine ⟨by omega, fun k h1 h2 => ?_⟩
           rcases (show k = 1 ∨ k = 2 ∨ k = 3 by omega) with rfl | rfl | rfl <;> first | omega | (simp_all; done))
    refine ⟨key.1, fun j hj h1 h2 => ?_⟩
    by_cases he : j = pos
    · subst he; exact hb
    · have := key.2 (j - pos) (by omega) (by omega)
      rw [Nat.add_sub_cancel' h1, hg j hj] at this
      omega
theorem cutF_over {s : ByteArray} {fr : Nat} : ∀ n k, k + n ≤ s.size → (∀ j (hj : j < s.size), k ≤ j → j < k + n → s[j].toNat ≠ 47) → cutF s 47 (s.size - k) fr k = cutF s 47 (s.size - (k + n)) fr (k + n) := by
  intro n
  induction n with
  | zero => intro k _ _; rfl
  | succ n ih =>
    intro k hk h
    have hlt : k < s.size := by omega
    have hf : s.size - k = s.size - (k + 1) + 1 := by omega
    rw [hf, zx1 hlt (h k hlt (Nat.le_refl _) (by omega)), ih (k + 1) (by omega) (fun j hj h1 h2 => h j hj (by omega) (by omega))]
    have e : k + 1 + n = k + (n + 1) := by omega
    rw [e]
end Pl
namespace Mem
theorem own_iterAt {w : World} {B e size n : Nat} {v : Value} {xs : List Value} {k : Nat} {s : ByteArray} {pos : Nat} (h : w.ownsRow B e size v n xs) (hk : w.heap[k]? = some (.stringIter s pos)) (pos' : Nat) : (w.iterAt k s pos').ownsRow B e size v n xs := by
  refine ⟨h.1, ?_⟩
  rcases h.2 with h0 | ⟨g, cap, cur, hv, hb, hg, rest⟩
  · exact .inl h0
  · refine .inr ⟨g, cap, cur, hv, hb, ?_, rest⟩
    rw [Lib.iterAt_other _ _ _ _ _ (fun e => by subst e; rw [hk] at hg; cases hg)]
    exact hg
theorem own_no_iter {w : World} {B e size n : Nat} {v : Value} {xs : List Value} {k : Nat} {s : ByteArray} {pos : Nat} (h : w.ownsRow B e size v n xs) (hk : w.heap[k]? = some (.stringIter s pos)) : some k ≠ v.ownBlock := by
  rcases h.2 with ⟨rfl, _⟩ | ⟨g, cap, cur, rfl, hb, hg, rest⟩
  · simp [Value.ownBlock]
  · intro e
    simp only [Value.ownBlock, Option.some.injEq] at e
    subst e
    rw [hk] at hg
    cases hg
end Mem
namespace WWords
theorem infoS : (Tryz.prog.info? 9).map (fun i => (i.zero, i.size, i.bytes)) = some (some (.string ⟨#[]⟩), 1, 16) := by kernel_rfl

set_option maxRecDepth 100000 in
set_option maxHeartbeats 400000 in
theorem any (s : ByteArray) (w : World) (hs : s.size ≤ 1048576) :
    Calls Tryz.prog 129 #[.string s] w fun e w' => ∃ v, e = .returned v ∧
      w'.ownsRow w.heap.size 9 1 v (Pl.cut s 47).length ((Pl.cut s 47).map Value.string) ∧ Below w.heap.size w w' := by
  obtain ⟨i0, hi, hz0, hz1, hz2⟩ := info_parts infoS
  go_enter Tryz.func129, Tryz.ntmps129
  go_wp2
  go_loopw [3, 4] (fun v x wr => ∃ (pos fr : Nat) (L : List ByteArray), pos ≤ s.size ∧ fr ≤ pos ∧ L.length ≤ pos ∧ x = .int .i64 (fr : Int) ∧
      wr.ownsRow w.heap.size 9 1 v L.length (L.map Value.string) ∧ wr.heap[w.heap.size + 1]? = some (.stringIter s pos) ∧ Below w.heap.size w wr ∧ Hid (Pl.cut s 47 = L ++ Pl.cutF s 47 (s.size - pos) fr pos)) (fun _ _ wr => s.size - wr.iterPos (w.heap.size + 1))
  case atStart =>
    refine ⟨0, 0, [], by omega, by omega, by simp, rfl, (World.ownsRow_made _ _ 0 (Nat.le_refl _) (Nat.zero_le _) rfl).alloc _, ?_, ((Below.refl _ _).alloc (Nat.le_refl _) _).alloc (by simp) _, rfl⟩
    have := World.iter_heap (w.alloc (.cells #[] 9)) s 0
    simpa using this
  case round =>
    obtain ⟨pos, fr, L, hk, hfr, hL, rfl, hown, hit, hbel, H⟩ := hrel
    have hb1 := hbel.size
    have hsz : w.heap.size + 1 < wr.heap.size := (Array.getElem?_eq_some_iff.1 hit).1
    have hip : wr.iterPos (w.heap.size + 1) = pos := by simp only [World.iterPos, hit]
    by_cases hlt : pos < s.size
    · by_cases hq : s[pos].toNat = 47
      · have ha : s[pos].toNat < 128 := by omega
        have hnx : ∀ ty, (Instr.next (.pointer (some ⟨w.heap.size + 1, 0, none⟩)) true ty).run Tryz.prog wr = .ok (.tuple #[.bool true, .int .i64 pos, .int .i32 47]) (wr.iterAt (w.heap.size + 1) s (pos + 1)) := fun ty => by
          rw [Lib.run_next_ascii_at wr (w.heap.size + 1) s pos ty hit hlt ha, hq]; rfl
        have hf : s.size - pos = s.size - (pos + 1) + 1 := by omega
        have H2 : Hid (Pl.cut s 47 = (L ++ [s.extract fr pos]) ++ Pl.cutF s 47 (s.size - (pos + 1)) (pos + 1) (pos + 1)) := by
          show _ = _
          rw [H.out, hf, Pl.cutF_hit hlt hq]; simp
        have hown2 := Mem.own_iterAt hown hit (pos + 1)
        have hit2 := Lib.iterAt_heap wr (w.heap.size + 1) s pos (pos + 1) hit
        have hbel2 := Lib.below_iterAt hbel (k := w.heap.size + 1) (by omega) s (pos + 1)
        have hsz2 : Hid ((wr.iterAt (w.heap.size + 1) s (pos + 1)).heap.size = wr.heap.size) := Lib.iterAt_size _ _ _ _
        have hne := Mem.own_no_iter hown2 hit2
        generalize wr.iterAt (w.heap.size + 1) s (pos + 1) = w1 at hnx hown2 hit2 hbel2 hsz2
        have t1 : (0 : Int) ≤ (fr : Int) := by omega
        have t2 : (fr : Int) ≤ (pos : Int) := by omega
        have t3 : (pos : Int) ≤ (s.size : Int) := by omega
        clear H hf hq hown hit hbel ha
        go_wp2_with (at_builtin; refine wpList_append_own _ rfl _ _ 144 rfl w.heap.size 9 i0 (.string ⟨#[]⟩) 1 16 Tryz.underlying144 hi hz0 hz1 hz2 rfl (by decide) _ _ _ rfl (hown2.alloc _) ⟨w1.heap.size, 0, none⟩ 1 1 [.string (s.extract fr pos)] rfl rfl ?c1 ?c2 ?c3 ?c4 ?c5 ?_)
        case c1 => exact Mem.zo0 _ _ _
        case c2 => intro u hu; simp at hu; subst hu; rfl
        case c3 => unfold maxLen; omega
        case c4 => omega
        case c5 => have := hsz2.out; simp; omega
        · intro v' w2 hown' hgrow _
          have hsz2 := hsz2.out
          have hbel' := Mem.zg9 hbel2 (Nat.le_refl _) hown2 hgrow
          have hown3 : w2.ownsRow w.heap.size 9 1 v' (L ++ [s.extract fr pos]).length ((L ++ [s.extract fr pos]).map Value.string) := by simpa using hown'
          have hit3 : w2.heap[w.heap.size + 1]? = some (.stringIter s (pos + 1)) :=
            (hgrow.block (w.heap.size + 1) (by simp; omega) hne).trans ((Below.heap_alloc _ _ _ (by omega)).trans hit2)
          have hip3 : w2.iterPos (w.heap.size + 1) = pos + 1 := by simp only [World.iterPos, hit3]
          clear hgrow hown2 hbel2 hown' hnx hit2
          go_wp2
          go_roundw
          case rel => exact ⟨pos + 1, pos + 1, L ++ [s.extract fr pos], by omega, by omega, by simp; omega, by go_num, hown3, hit3, hbel', H2⟩
          case measure => rw [hip3, hip]; omega
      · obtain ⟨r1, r2, r3, r4⟩ := Pl.rune_other s pos hlt hq
        have hnx : ∀ ty, (Instr.next (.pointer (some ⟨w.heap.size + 1, 0, none⟩)) true ty).run Tryz.prog wr = .ok (.tuple #[.bool true, .int .i64 pos, .int .i32 (Utf8.decode s pos).1]) (wr.iterAt (w.heap.size + 1) s (pos + (Utf8.decode s pos).2)) := fun ty =>
          Lib.run_next_any_at wr (w.heap.size + 1) s pos ty hit hlt
        have H2 : Hid (Pl.cut s 47 = L ++ Pl.cutF s 47 (s.size - (pos + (Utf8.decode s pos).2)) fr (pos + (Utf8.decode s pos).2)) := by
          show _ = _
          rw [H.out, Pl.cutF_over _ pos r3 r4]
        have hown2 := Mem.own_iterAt hown hit (pos + (Utf8.decode s pos).2)
        have hit2 := Lib.iterAt_heap wr (w.heap.size + 1) s pos (pos + (Utf8.decode s pos).2) hit
        have hbel2 := Lib.below_iterAt hbel (k := w.heap.size + 1) (by omega) s (pos + (Utf8.decode s pos).2)
        have hip2 : (wr.iterAt (w.heap.size + 1) s (pos + (Utf8.decode s pos).2)).iterPos (w.heap.size + 1) = pos + (Utf8.decode s pos).2 := by simp only [World.iterPos, hit2]
        have t4 : (((Utf8.decode s pos).1 : Int) == 47) = false := by rw [beq_eq_false_iff_ne]; omega
        generalize hD : (Utf8.decode s pos).2 = n at *
        generalize (Utf8.decode s pos).1 = r at *
        generalize wr.iterAt (w.heap.size + 1) s (pos + n) = w1 at *
        clear H hq hown hit hbel r4 hD r1
        go_wp2
        go_roundw
        case rel => exact ⟨pos + n, fr, L, r3, by omega, by omega, rfl, hown2, hit2, hbel2, H2⟩
        case measure => rw [hip2, hip]; omega
    · obtain rfl : pos = s.size := by omega
      have hnx : ∀ ty, (Instr.next (.pointer (some ⟨w.heap.size + 1, 0, none⟩)) true ty).run Tryz.prog wr = .ok (.tuple #[.bool false]) wr := fun ty => Lib.run_next_end_at wr (w.heap.size + 1) s s.size ty hit hlt
      have H2 : Hid (Pl.cut s 47 = L ++ [s.extract fr s.size]) := by
        show _ = _
        rw [H.out, Nat.sub_self]; rfl
      have t1 : (0 : Int) ≤ (fr : Int) := by omega
      have t2 : (fr : Int) ≤ (s.size : Int) := by omega
      clear H
      go_wp2_with (at_builtin; refine wpList_append_own _ rfl _ _ 144 rfl w.heap.size 9 i0 (.string ⟨#[]⟩) 1 16 Tryz.underlying144 hi hz0 hz1 hz2 rfl (by decide) _ _ _ rfl (hown.alloc _) ⟨wr.heap.size, 0, none⟩ 1 1 [.string (s.extract fr s.size)] rfl rfl ?c1 ?c2 ?c3 ?c4 ?c5 ?_)
      case c1 => exact Mem.zo0 _ _ _
      case c2 => intro u hu; simp at hu; subst hu; rfl
      case c3 => unfold maxLen; omega
      case c4 => omega
      case c5 => simp; omega
      · intro v' w2 hown' hgrow _
        have hbel' := Mem.zg9 hbel (Nat.le_refl _) hown hgrow
        have hown2 : w2.ownsRow w.heap.size 9 1 v' (Pl.cut s 47).length ((Pl.cut s 47).map Value.string) := by rw [H2.out]; simpa using hown'
        clear hgrow hown hbel hown'
        go_wp2
        go_ret
        exact ⟨_, rfl, hown2, hbel'⟩
end WWords
end
section
open Go.RowKit
namespace WName

set_option maxHeartbeats 400000 in
theorem zw3 (s:ByteArray) (w:World) (hs:s.size≤maxLen):
  Calls Tryz.prog 103 #[.string s] w fun e w'=>e= .returned (.bool (Pl.zc8 s))∧w'=w:=by
 unfold maxLen at hs;by_cases h1:s.size<1
 ·have e0:=hide (Pl.zz6 h1);go_enter Tryz.func103,Tryz.ntmps103
  go_wp2
  go_ret
  exact ⟨za0 (za e0).symm,rfl⟩
 by_cases h2:20<s.size
 ·have e0:=hide (Pl.yb2 h2);go_enter Tryz.func103,Tryz.ntmps103
  go_wp2
  go_ret
  exact ⟨za0 (za e0).symm,rfl⟩
 go_enter Tryz.func103,Tryz.ntmps103
 go_wp2
 go_loop [3] (fun i=>∃k:Nat,k≤s.size∧i= .int .i64 k∧Hid (∀j,j<k→Pl.okAt j ((s.data.toList.getD j 0).toNat))) (fun i=>s.size - (intOf i).toNat)
 case atStart=>exact ⟨0,Nat.zero_le _,rfl,fun j hj=>absurd hj (by omega)⟩
 case round=>
  obtain ⟨k,hk,rfl,hok⟩:=hrel;by_cases hlt:k<s.size
  ·by_cases hk0:k=0
   ·subst hk0;have okc:∀n:Nat,Pl.okAt 0 n↔(97≤n∧n≤122):=fun n=>by unfold Pl.okAt;omega
    have OK:=hide okc;clear okc
    rcases Pl.kinds (s[0].toNat:Int) with ⟨a1,a2⟩|⟨a1,a2,a3,a4⟩|⟨a1,a2,a3,a4⟩|⟨a1,a2,a3,a4⟩|⟨a1,a2,a3⟩|⟨a1,a2,a3,a4,a5⟩
    ·go_wp2
     go_round
     case rel=>exact ⟨1,by omega,rfl,Pl.zt6 hok.out hlt ((za OK _).2 (by omega))⟩
     case measure=>simp [intOf];omega
    all_goals
     go_wp2
     go_ret
     exact ⟨za0 (Pl.zp0 0 hlt (by rw [za OK];omega)).symm,rfl⟩
   ·have hkb:((k:Int)==0)=false:=by simp;omega
    have okc:∀n:Nat,Pl.okAt k n↔(97≤n∧n≤122)∨(48≤n∧n≤57)∨n=95:=fun n=>by unfold Pl.okAt;omega
    have OK:=hide okc;clear okc
    rcases Pl.kinds (s[k].toNat:Int) with ⟨a1,a2⟩|⟨a1,a2,a3,a4⟩|⟨a1,a2,a3,a4⟩|⟨a1,a2,a3,a4⟩|⟨a1,a2,a3⟩|⟨a1,a2,a3,a4,a5⟩
    ·go_wp2
     go_round
     case rel=>exact ⟨k+1,by omega,by go_num,Pl.zt6 hok.out hlt ((za OK _).2 (by omega))⟩
     case measure=>simp [intOf];omega
    ·go_wp2
     go_round
     case rel=>exact ⟨k+1,by omega,by go_num,Pl.zt6 hok.out hlt ((za OK _).2 (by omega))⟩
     case measure=>simp [intOf];omega
    ·go_wp2
     go_ret
     exact ⟨za0 (Pl.zp0 k hlt (by rw [za OK];simp at a4;omega)).symm,rfl⟩
    ·go_wp2
     go_round
     case rel=>exact ⟨k+1,by omega,by go_num,Pl.zt6 hok.out hlt ((za OK _).2 (by simp at a4;omega))⟩
     case measure=>simp [intOf];omega
    all_goals
     go_wp2
     go_ret
     exact ⟨za0 (Pl.zp0 k hlt (by rw [za OK];omega)).symm,rfl⟩
  ·have e0:Pl.zc8 s=true:=Pl.ya8 h1 h2 (fun j hj=>hok.out j (by omega));have E0:=hide e0;clear e0;go_wp2
   go_ret
   exact ⟨za0 (za E0).symm,rfl⟩

set_option maxHeartbeats 400000 in
theorem zw2 (s:ByteArray) (w:World) (hs:s.size≤maxLen):
  Calls Tryz.prog 130 #[.string s] w fun e w'=>e= .returned (.bool (Pl.zc8 s))∧w'=w:=by
 unfold maxLen at hs;by_cases h1:s.size<1
 ·have e0:=hide (Pl.zz6 h1);go_enter Tryz.func130,Tryz.ntmps130
  go_wp2
  go_ret
  exact ⟨za0 (za e0).symm,rfl⟩
 by_cases h2:20<s.size
 ·have e0:=hide (Pl.yb2 h2);go_enter Tryz.func130,Tryz.ntmps130
  go_wp2
  go_ret
  exact ⟨za0 (za e0).symm,rfl⟩
 have hp:0<s.size:=by omega
 by_cases hl:97≤(s[0].toNat:Int)∧(s[0].toNat:Int)≤122
 ·obtain ⟨l1,l2⟩:=hl;have H0:Hid (Pl.okAt 0 s[0].toNat):=Or.inl (by omega);go_enter Tryz.func130,Tryz.ntmps130
  go_wp2
  go_loop [21] (fun i=>∃k:Nat,k≤s.size∧i= .int .i64 k∧Hid (∀j,j<k→Pl.okAt j ((s.data.toList.getD j 0).toNat))) (fun i=>s.size - (intOf i).toNat)
  case atStart=>exact ⟨0,Nat.zero_le _,rfl,fun j hj=>absurd hj (by omega)⟩
  case round=>
   obtain ⟨k,hk,rfl,hok⟩:=hrel;by_cases hlt:k<s.size
   ·have hstep:Hid ((97≤s[k].toNat∧s[k].toNat≤122)∨(48≤s[k].toNat∧s[k].toNat≤57)∨s[k].toNat=95→∀j,j<k+1→Pl.okAt j ((s.data.toList.getD j 0).toNat)):=by
     intro ho;refine Pl.zt6 hok.out hlt ?_;by_cases hk0:k=0
     ·subst hk0;exact H0
     ·unfold Pl.okAt;omega
    have hbad:Hid (¬ ((97≤s[k].toNat∧s[k].toNat≤122)∨(48≤s[k].toNat∧s[k].toNat≤57)∨s[k].toNat=95)→Pl.zc8 s=false):=by
     intro hn;exact Pl.zp0 k hlt (by unfold Pl.okAt;omega)
    clear l1 l2 H0 hok
    rcases Pl.kinds (s[k].toNat:Int) with ⟨a1,a2⟩|⟨a1,a2,a3,a4⟩|⟨a1,a2,a3,a4⟩|⟨a1,a2,a3,a4⟩|⟨a1,a2,a3⟩|⟨a1,a2,a3,a4,a5⟩
    ·go_wp2
     go_round
     case rel=>exact ⟨k+1,by omega,by go_num,hstep.out (by omega)⟩
     case measure=>simp [intOf];omega
    ·go_wp2
     go_round
     case rel=>exact ⟨k+1,by omega,by go_num,hstep.out (by omega)⟩
     case measure=>simp [intOf];omega
    ·go_wp2
     go_ret
     exact ⟨za0 (hbad.out (by simp at a4;omega)).symm,rfl⟩
    ·go_wp2
     go_round
     case rel=>exact ⟨k+1,by omega,by go_num,hstep.out (by simp at a4;omega)⟩
     case measure=>simp [intOf];omega
    all_goals
     go_wp2
     go_ret
     exact ⟨za0 (hbad.out (by omega)).symm,rfl⟩
   ·have e0:Pl.zc8 s=true:=Pl.ya8 h1 h2 (fun j hj=>hok.out j (by omega));have E0:=hide e0;clear e0;go_wp2
    go_ret
    exact ⟨za0 (za E0).symm,rfl⟩
 ·have e0:Pl.zc8 s=false:=Pl.zp0 0 hp (by unfold Pl.okAt;omega);have E0:=hide e0;clear e0;by_cases g1:97≤(s[0].toNat:Int)
  ·have g2:¬ (s[0].toNat:Int)≤122:=by omega
   clear hl;go_enter Tryz.func130,Tryz.ntmps130
   go_wp2
   go_ret
   exact ⟨za0 (za E0).symm,rfl⟩
  ·clear hl;go_enter Tryz.func130,Tryz.ntmps130
   go_wp2
   go_ret
   exact ⟨za0 (za E0).symm,rfl⟩
end WName
end
section
open Go.RowKit
namespace Mem
theorem texts {w:World} {B T:Nat} {v:Value} {L:List ByteArray} (h:w.ownsRow B T 1 v L.length (L.map Value.string)):
  (v= .slice none 0 0∧L=[])∨∃g cap,v= .slice (some ⟨g,0,none⟩) L.length cap∧L.length≤cap∧cap≤maxLen∧B≤g∧g<w.heap.size∧∀ (k:Nat) t,L[k]? =some t→w.cell? ⟨g,k,none⟩=some (.string t):=by
 rcases h.2 with ⟨rfl,h0⟩|⟨g,cap,cur,rfl,hgb,hg,hcap,hm,hsz,htk⟩
 ·exact .inl ⟨rfl,List.eq_nil_of_length_eq_zero h0⟩
 ·refine .inr ⟨g,cap,rfl,hcap,hm,hgb,(Array.getElem?_eq_some_iff.1 hg).1,fun k t ht=>?_⟩;have hk:=(List.getElem?_eq_some_iff.1 ht).1;rw [cell_of_row w g k cur T (0,0) hg];have h1:(cur.toList.take (L.length*1))[k]? =(L.map Value.string)[k]?:=by rw [htk]
  rw [List.getElem?_take_of_lt (by omega),List.getElem?_map,ht] at h1
  simpa using h1
theorem one_str (t:ByteArray):∀u∈[Value.string t],u.oneCell'=true:=by
 intro u hu;simp at hu;subst hu;rfl
def zm (w:World) (v:Value) (ts:List ByteArray):Prop:=
 (v= .slice none 0 0∧ts=[])∨∃b o cap,v= .slice (some ⟨b,o,none⟩) ts.length cap∧b<w.heap.size∧∀ (j:Nat) t,ts[j]? =some t→w.cell? ⟨b,o+j,none⟩=some (.string t)
theorem zo6 {w:World} {B T:Nat} {v:Value} {L:List ByteArray} (h:w.ownsRow B T 1 v L.length (L.map Value.string)):zm w v L:=by
 rcases texts h with h|⟨g,cap,h1,h2,h3,h4,h5,h6⟩
 ·exact .inl h
 ·exact .inr ⟨g,0,cap,h1,h5,fun j t ht=>by rw [Nat.zero_add];exact h6 j t ht⟩
theorem take_texts {w:World} {g cap:Nat} {L:List ByteArray} (hg:g<w.heap.size) (hc:∀ (k:Nat) t,L[k]? =some t→w.cell? ⟨g,k,none⟩=some (.string t)) (n:Nat) (hn:n≤L.length):
  zm w (.slice (some ⟨g,0,none⟩) n cap) (L.take n):=by
 refine .inr ⟨g,0,cap,by rw [List.length_take,Nat.min_eq_left hn],hg,fun j t ht=>?_⟩;rw [Nat.zero_add];refine hc j t ?_;have hj:j<n:=by have :=(List.getElem?_eq_some_iff.1 ht).1;rw [List.length_take] at this;omega
 rwa [List.getElem?_take_of_lt hj] at ht
theorem drop_texts {w:World} {g cap:Nat} {L:List ByteArray} (hg:g<w.heap.size) (hc:∀ (k:Nat) t,L[k]? =some t→w.cell? ⟨g,k,none⟩=some (.string t)) (n:Nat):
  zm w (.slice (some ⟨g,n,none⟩) (L.length - n) cap) (L.drop n):=by
 refine .inr ⟨g,n,cap,by rw [List.length_drop],hg,fun j t ht=>?_⟩;refine hc (n+j) t ?_
 rwa [List.getElem?_drop] at ht
theorem own_below {w w':World} {B B' e size n:Nat} {v:Value} {xs:List Value} (h:w.ownsRow B e size v n xs) (hb:Below B' w w') (hB:∀k,v.ownBlock=some k→k<B'):w'.ownsRow B e size v n xs:=by
 refine ⟨h.1,?_⟩
 rcases h.2 with h0|⟨g,cap,cur,rfl,hgb,hg,rest⟩
 ·exact .inl h0
 ·exact .inr ⟨g,cap,cur,rfl,hgb,(hb.block g (hB g rfl)).trans hg,rest⟩
theorem ze8 {w w':World} {B e size n:Nat} {v:Value} {xs:List Value} (h:w.ownsRow B e size v n xs) (hb:Below w.heap.size w w'):w'.ownsRow B e size v n xs:=
 own_below h hb (fun k hk=>(h.lt k hk).2)
theorem texts_call {w w':World} {v:Value} {ts:List ByteArray} (h:zm w v ts) (hb:Below w.heap.size w w'):zm w' v ts:=by
 rcases h with h|⟨b,o,cap,rfl,hlt,hc⟩
 ·exact .inl h
 ·exact .inr ⟨b,o,cap,rfl,Nat.lt_of_lt_of_le hlt hb.size,fun j t ht=>(hb.cell (p:=⟨b,o+j,none⟩) hlt).trans (hc j t ht)⟩
theorem below_drewN {B:Nat} {a w:World} (h:Below B a w) (q:Nat):Below B a (w.drewN q):=h.trans ⟨rfl,rfl,rfl,Nat.le_refl _,fun _ _=>rfl⟩
theorem zo3 {w:World} {v:Value} {ts:List ByteArray} (h:zm w v ts):∃a cap,v= .slice a ts.length cap:=by
 rcases h with ⟨rfl,rfl⟩|⟨b,o,cap,rfl,_⟩ <;> exact ⟨_,_,rfl⟩
end Mem
end
end Go.Proofs.YtonffldjbmednaaGreatDoor
