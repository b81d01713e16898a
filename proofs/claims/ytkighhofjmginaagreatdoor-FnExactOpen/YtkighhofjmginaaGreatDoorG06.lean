/- Several texts of one claim in one file: WSpI2, MapI, MapNv, WWords, WName, MemTexts, WNames, WBothI, WLess. -/
import Derived.Test.YtkighhofjmginaaGreatDoorG02
import Derived.Laws.AppendOwnNone
import Derived.WalkSpells
import Derived.Lib.OthersKept
namespace Go.Proofs.YtkighhofjmginaaGreatDoor
section
set_option linter.unusedSimpArgs false
open Go.RowKit
namespace Pl
def idxF {α:Type} (f:α→Bool):List α→Int
 | []=> -1
 |x::r=>if f x then 0 else (if idxF f r<0 then -1 else idxF f r+1)
theorem idx_at {α:Type} {f:α→Bool} {l:List α} {k:Nat} {x:α} (h:l[k]? =some x) (hx:f x=true) (hn:∀ (j:Nat) y,j<k→l[j]? =some y→f y=false):idxF f l=(k:Int):=by
 induction l generalizing k with
 |nil=>simp at h
 |cons y r ih=>
  rw [idxF];cases k with
  |zero=>simp at h;subst h;rw [if_pos hx];rfl
  |succ k=>
   have h0:f y=false:=hn 0 y (by omega) rfl;have :=ih (k:=k) (by simpa using h) (fun j z hj hz=>hn (j+1) z (by omega) (by simpa using hz));rw [if_neg (by simp [h0]),this,if_neg (by omega)];omega
theorem idx_no {α:Type} {f:α→Bool} {l:List α} (hn:∀ (j:Nat) y,l[j]? =some y→f y=false):idxF f l= -1:=by
 induction l with
 |nil=>rfl
 |cons y r ih=>
  have h0:f y=false:=hn 0 y rfl;have :=ih (fun j z hz=>hn (j+1) z (by simpa using hz));rw [idxF,if_neg (by simp [h0]),this];rfl
theorem idx_any {α:Type} (f:α→Bool) (l:List α):decide (0≤idxF f l)=l.any f:=by
 induction l with
 |nil=>rfl
 |cons y r ih=>
  rw [idxF,List.any_cons];cases h:f y
  ·rw [if_neg (by simp),Bool.false_or,←ih]
   split
   ·rename_i h2;rw [decide_eq_decide];omega
   ·rename_i h2;rw [decide_eq_decide];omega
  ·rfl
end Pl
namespace WSpI
set_option maxRecDepth 100000 in
set_option maxHeartbeats 800000 in
theorem index_any (K:FuncId) (c:Value) (f:Pl.Mn→Bool) (a:Option Addr) (cap:Nat) (M:List Pl.Mn) (w:World) (hl:M.length≤1048576) (hv:Mem.zc4 w a M)
  (hE:∀ (t:Pl.Mn) W,(callFunc K #[.agg #[.string t.p, .int .i64 t.i, .bool t.z],c]).run Tryz.prog W= .ok (.enter K #[.agg #[.string t.p, .int .i64 t.i, .bool t.z],c]) W)
  (hK:∀t∈M,∀W,Below w.heap.size w W→Calls Tryz.prog K #[.agg #[.string t.p, .int .i64 t.i, .bool t.z],c] W fun e w'=>e= .returned (.bool (f t))∧Below W.heap.size W w'):
  Calls Tryz.prog 192 #[.slice a M.length cap, .func (.func K) #[] #[c]] w fun e w'=>e= .returned (.int .i64 (Pl.idxF f M))∧Below w.heap.size w w':=by
 have HX:=hide hv;have HK:=hide hK;have HAT:=hide (fun (k:Nat) (x:Pl.Mn)=>Pl.idx_at (f:=f) (l:=M) (k:=k) (x:=x));have HNO:=hide (Pl.idx_no (f:=f) (l:=M));generalize Pl.idxF f M=R at HAT HNO ⊢;clear hv hK;go_enter Tryz.func192,Tryz.ntmps192
 go_wp2
 go_loopw [8] (fun i wr=>∃k:Nat,k≤M.length∧i= .int .i64 (k:Int)∧Below w.heap.size w wr∧Hid (∀ (j:Nat) y,j<k→M[j]? =some y→f y=false)) (fun i _=>M.length - (intOf i).toNat)
 case atStart=>exact ⟨0,Nat.zero_le _,rfl,Below.refl _ _,fun j y h=>absurd h (by omega)⟩
 case round=>
  obtain ⟨k,hk,rfl,hbel,HA⟩:=hrel;by_cases hlt:k<M.length
  ·obtain ⟨t,ht⟩:∃n,M[k]? =some n:=⟨_,List.getElem?_eq_getElem hlt⟩;obtain ⟨g,o,rfl,hg,q0,q1,q2⟩:=(za HX) k t ht;have c0:=(hbel.cell (p:=⟨g,_,none⟩) hg).trans q0;have c1:=(hbel.cell (p:=⟨g,_,none⟩) hg).trans q1;have c2:=(hbel.cell (p:=⟨g,_,none⟩) hg).trans q2;have u1:(k:Int)<(M.length:Int):=by omega
   have u3:(0:Int)≤(k:Int):=by omega
   have hc:=hide (za HK t (List.mem_of_getElem? ht) wr hbel);have HT:=hide ht;have hE1:=hE t;clear q0 q1 q2 ht;go_wp2_with fail
   refine (za hc).mono ?_;rintro e w1 ⟨rfl,bX⟩;have b1:=hbel.trans (bX.mono hbel.size);cases hf:f t
   ·have HA2:Hid (∀ (j:Nat) y,j<k+1→M[j]? =some y→f y=false):=fun j y hj hy=>by
     rcases Nat.lt_succ_iff_lt_or_eq.1 hj with h|h
     ·exact za HA j y h hy
     ·subst h;rw [za HT] at hy;cases hy;exact hf
    go_wp2
    go_roundw
    case rel=>exact ⟨k+1,by omega,by go_num,b1,HA2⟩
    case measure=>simp [intOf];omega
   ·have e0:=hide (za HAT k t (za HT) hf (za HA));go_wp2
    go_ret
    exact ⟨by rw [za e0];rfl,b1⟩
  ·have u1:¬ (k:Int)<(M.length:Int):=by omega
   have e0:=hide (za HNO (fun j y hy=>za HA j y (by have :=(List.getElem?_eq_some_iff.1 hy).1;omega) hy));go_wp2
   go_ret
   exact ⟨by rw [za e0];rfl,hbel⟩
set_option maxRecDepth 100000 in
theorem contains_any (K:FuncId) (c:Value) (f:Pl.Mn→Bool) (a:Option Addr) (cap:Nat) (M:List Pl.Mn) (w:World) (hl:M.length≤1048576) (hv:Mem.zc4 w a M)
  (hE:∀ (t:Pl.Mn) W,(callFunc K #[.agg #[.string t.p, .int .i64 t.i, .bool t.z],c]).run Tryz.prog W= .ok (.enter K #[.agg #[.string t.p, .int .i64 t.i, .bool t.z],c]) W)
  (hK:∀t∈M,∀W,Below w.heap.size w W→Calls Tryz.prog K #[.agg #[.string t.p, .int .i64 t.i, .bool t.z],c] W fun e w'=>e= .returned (.bool (f t))∧Below W.heap.size W w'):
  Calls Tryz.prog 163 #[.slice a M.length cap, .func (.func K) #[] #[c]] w fun e w'=>e= .returned (.bool (M.any f))∧Below w.heap.size w w':=by
 have hi:=hide (index_any K c f a cap M w hl hv hE hK);have HA:=hide (Pl.idx_any f M);generalize Pl.idxF f M=R at hi HA;generalize M.any f=B at HA ⊢;clear hE hK hv;go_enter Tryz.func163,Tryz.ntmps163
 go_wp2_with fail
 refine (za hi).mono ?_;rintro e w1 ⟨rfl,bX⟩;go_wp2
 go_ret
 exact ⟨by rw [←za HA];rfl,bX⟩
def other (m o:Pl.Mn):Bool:= !(decide (o.p=m.p)&&decide (o.i=m.i)&&decide (o.z=m.z))&&decide (o.i=m.i)
set_option maxRecDepth 100000 in
set_option maxHeartbeats 800000 in
theorem other_any (m o:Pl.Mn) (X:Nat) (w:World) (hX:Mem.Blk w X #[.string m.p, .int .i64 m.i, .bool m.z] 56):
  Calls Tryz.prog 164 #[.agg #[.string o.p, .int .i64 o.i, .bool o.z], .pointer (some ⟨X,0,none⟩)] w fun e w'=>e= .returned (.bool (other m o))∧Below w.heap.size w w':=by
 have b0:=(Below.refl w.heap.size w).alloc (o:= .cells #[.string o.p, .int .i64 o.i, .bool o.z] 56) (Nat.le_refl _);have V:=Mem.Blk.new w #[.string o.p, .int .i64 o.i, .bool o.z] 56;have Y:=hX.alloc (.cells #[.string o.p, .int .i64 o.i, .bool o.z] 56);obtain ⟨a0,a1,a2⟩:=jc3 V;obtain ⟨y0,y1,y2⟩:=jc3 Y;clear V Y hX;obtain ⟨op,oi,oz⟩:=o;obtain ⟨mp,mi,mz⟩:=m;simp only at a0 a1 a2 y0 y1 y2 b0 ⊢;by_cases hi:oi=mi
 ·subst hi;by_cases hp:op=mp
  ·subst hp;by_cases hz:oz=mz
   ·subst hz;have e0:other ⟨op,oi,oz⟩ ⟨op,oi,oz⟩=false:=by simp [other]
    rw [e0];go_enter Tryz.func164,Tryz.ntmps164
    go_wp2
    go_ret
    exact ⟨rfl,b0⟩
   ·have e0:other ⟨op,oi,mz⟩ ⟨op,oi,oz⟩=true:=by simp [other,hz]
    rw [e0];have hz1:(oz==mz)=false:=by simpa using hz
    go_enter Tryz.func164,Tryz.ntmps164
    go_wp2
    go_ret
    exact ⟨rfl,b0⟩
  ·have e0:other ⟨mp,oi,mz⟩ ⟨op,oi,oz⟩=true:=by simp [other,hp]
   rw [e0];have hp1:=Pl.zl0 hp;go_enter Tryz.func164,Tryz.ntmps164
   go_wp2
   go_ret
   exact ⟨rfl,b0⟩
 ·have e0:other ⟨mp,mi,mz⟩ ⟨op,oi,oz⟩=false:=by simp [other,hi]
  rw [e0];have hi1:(oi==mi)=false:=by simpa using hi
  go_enter Tryz.func164,Tryz.ntmps164
  go_wp2
  go_ret
  exact ⟨rfl,b0⟩
end WSpI
end
section
open Go.RowKit Go.Maps
namespace MapI
def key (d:Int):Lit:= .int .i64 d
def i64 (d:Int):Prop:= -9223372036854775808≤d∧d≤9223372036854775807
theorem wf_of {d:Int} (h:i64 d):(Lit.int .i64 d).wf=true:=by
 obtain ⟨h1,h2⟩:=h;have e1:IntKind.i64.min= -9223372036854775808:=by decide
 have e2:IntKind.i64.max=9223372036854775807:=by decide
 simp only [Lit.wf,e1,e2,Bool.and_eq_true,decide_eq_true_eq];omega
def elem (v:Value):Option (DataW Value × List MemPlace):=some (.held v,[])
def dat (v:Value):DataW Value:= .held v
theorem zr7 (v:Value):elem v=some (dat v,[]):=rfl
theorem zr6 {a b:Value} (h:dat a=dat b):a=b:=by unfold dat at h;exact DataW.held.inj h
def mapOf (C:List (Int × Value)):DataW Value:=C.foldl (fun D n=>D.put (key n.1) (dat n.2)) (.map [])
theorem yd9 (C:List (Int × Value)) (n:Int × Value):mapOf (C++[n])=(mapOf C).put (key n.1) (dat n.2):=by simp [mapOf,List.foldl_append]
theorem zy5 (p:Int):WideAt.IsKeyLit (key p):=by simp [key,WideAt.IsKeyLit]
theorem key_ne {a b:Int} (h:a≠b):key a≠key b:=fun e=>h (by unfold key at e;exact (Lit.int.inj e).2)
theorem ye2:∀ (C:List (Int × Value)) (D:DataW Value),IsMap D→IsMap (C.foldl (fun D n=>D.put (key n.1) (dat n.2)) D):=by
 intro C
 induction C with
 |nil=>intro D h;exact h
 |cons n C ih=>intro D h;exact ih _ (h.put _ _)
theorem zq4 (C:List (Int × Value)):IsMap (mapOf C):=ye2 C _ isMap_empty
theorem zl9 (p:Int):∀ (C:List (Int × Value)) (D:DataW Value),(∀n∈C,n.1≠p)→Maps.has (C.foldl (fun D n=>D.put (key n.1) (dat n.2)) D) (key p)=Maps.has D (key p)∧∀z,(C.foldl (fun D n=>D.put (key n.1) (dat n.2)) D).atKey (key p) z=D.atKey (key p) z:=by
 intro C
 induction C with
 |nil=>intro D _;exact ⟨rfl,fun _=>rfl⟩
 |cons n C ih=>
  intro D h;have h1:key p≠key n.1:=key_ne (fun e=>h n List.mem_cons_self e.symm);obtain ⟨i1,i2⟩:=ih (D.put (key n.1) (dat n.2)) (fun m hm=>h m (List.mem_cons_of_mem _ hm));refine ⟨?_,fun z=>?_⟩
  ·show Maps.has (C.foldl _ (D.put (key n.1) (dat n.2))) (key p)=_;rw [i1,has_put_other h1]
  ·show (C.foldl _ (D.put (key n.1) (dat n.2))).atKey (key p) z=_;rw [i2,atKey_put_other h1]
theorem has_no {C:List (Int × Value)} {p:Int} (h:p∉C.map (·.1)):Maps.has (mapOf C) (key p)=false:=by
 rw [mapOf,(zl9 p C _ (fun n hn e=>h (List.mem_map.2 ⟨n,hn,e⟩))).1];rfl
theorem at_no {C:List (Int × Value)} {p:Int} (h:p∉C.map (·.1)) (z:DataW Value):(mapOf C).atKey (key p) z=z:=by
 rw [mapOf,(zl9 p C _ (fun n hn e=>h (List.mem_map.2 ⟨n,hn,e⟩))).2];rfl
theorem zw {C:List (Int × Value)} {n:Int × Value} (hC:C.Pairwise (fun a b=>a.1≠b.1)) (hn:n∈C):Maps.has (mapOf C) (key n.1)=true∧∀z,(mapOf C).atKey (key n.1) z=dat n.2:=by
 obtain ⟨A,B,rfl⟩:=List.append_of_mem hn;rw [List.pairwise_append] at hC;have h2:=(List.pairwise_cons.1 hC.2.1).1;have e:mapOf (A++n::B)=B.foldl (fun D n=>D.put (key n.1) (dat n.2)) ((mapOf A).put (key n.1) (dat n.2)):=by simp [mapOf,List.foldl_append]
 obtain ⟨i1,i2⟩:=zl9 n.1 B ((mapOf A).put (key n.1) (dat n.2)) (fun m hm e=>h2 m hm e.symm);rw [e];exact ⟨by rw [i1,has_put_same (zq4 A) (zy5 _)],fun z=>by rw [i2,atKey_put_same (zq4 A) (zy5 _)]⟩
def getV (C:List (Int × Value)) (d:Int) (z:Value):Value:=match C.find? (fun n=>decide (n.1=d)) with |some n=>n.2|none=>z
theorem look {C:List (Int × Value)} (hC:C.Pairwise (fun a b=>a.1≠b.1)) (d:Int) (z:Value):Maps.has (mapOf C) (key d)=decide (d∈C.map (·.1))∧(mapOf C).atKey (key d) (dat z)=dat (getV C d z):=by
 unfold getV;by_cases h:d∈C.map (·.1)
 ·obtain ⟨n,hn,rfl⟩:=List.mem_map.1 h;obtain ⟨h1,h2⟩:=zw hC hn;rw [h1,h2];refine ⟨by simp [h],?_⟩;cases hf:C.find? (fun m=>decide (m.1=n.1)) with
  |none=>exact absurd (List.find?_eq_none.1 hf n hn) (by simp)
  |some m=>
   have h3:=List.find?_some hf;have h4:=List.mem_of_find?_eq_some hf
   have e:m=n:=by
    by_cases e:m=n
    ·exact e
    ·exfalso;obtain ⟨i,hi,e1⟩:=List.mem_iff_getElem.1 hn;obtain ⟨j,hj,e2⟩:=List.mem_iff_getElem.1 h4;have h5:=List.pairwise_iff_getElem.1 hC
     rcases Nat.lt_trichotomy i j with hij|hij|hij
     ·exact h5 i j hi hj hij (by rw [e1,e2];exact (of_decide_eq_true h3).symm)
     ·subst hij;exact e (e2.symm.trans e1)
     ·exact h5 j i hj hi hij (by rw [e1,e2];exact of_decide_eq_true h3)
   subst e;rfl
 ·rw [has_no h,at_no h];refine ⟨by simp [h],?_⟩;cases hf:C.find? (fun m=>decide (m.1=d)) with
  |none=>rfl
  |some m=>have h3:=List.find?_some hf;simp only [decide_eq_true_eq] at h3;exact absurd (List.mem_map.2 ⟨m,List.mem_of_find?_eq_some hf,h3⟩) h
theorem law:Keyed Tryz.prog 2:=int_keyed Tryz.underlying2
theorem zm4 {d:Int} (h:i64 d):keyOf Tryz.prog 2 (.int .i64 d)=some (key d):=keyOf_int_mk Tryz.underlying2 (wf_of h)
theorem look_ok {P:Program} (w:World) {ops:Array Oper} {rest:List Oper} {o:Oper} {a:Act} {Q:Exit→Act→World→Prop} (hg:o.guard=none) (m x:Operand) (t:TypeId) (hop:o.op=Op.lookup t m x true)
  (k e:TypeId) (K:Keyed P k) (ht:P.underlying t=some (.map k e)) (z:Value) (hz:(zeroValue e).run P w= .ok z w) (b n:Nat) (D:DataW Value)
  (hm:a.eval m= .map (some b)) (hown:w.ownsMap P k elem b n D) (kv:Value) (kl:Lit) (hx:a.eval x=kv) (hkey:keyOf P k kv=some kl) (v:Value) (hat:D.atKey kl (dat z)=dat v) (r:Bool) (hr:Maps.has D kl=r)
  (hK:wpList P ops Q rest (a.put o.dst (.tuple #[v, .bool r])) w):
  wpList P ops Q (o::rest) a w:=by
 refine wpList_plain hg fun K' hK'=>?_;obtain ⟨v1,ps,hrun,hv⟩:=hown.look_ok K ht hz (zr7 _) hkey
 have hd:v1=v:=by
  unfold elem at hv;simp only [Option.some.injEq,Prod.mk.injEq] at hv;rw [hat] at hv;exact zr6 hv.1
 subst hd;subst hr;unfold Oper.wp;simp [execOp,hop,hm,hx,hrun,Result.andThen]
 exact hK' _ _ hK
theorem zf1 {w w':World} {B n:Nat} {D:DataW Value} (h:w.ownsMap Tryz.prog 2 elem B n D) (b:Below w.heap.size w w'):w'.ownsMap Tryz.prog 2 elem B n D:=
 h.kept (row:=none) ⟨b.os,b.tape,b.output,b.size,fun j hj _=>b.block j hj⟩ (by simp)
end MapI
end
section
open Go.RowKit Go.Maps
namespace Pl
structure Nv where
 m:Option Nat
 n:Nat
 a:Option Addr
 cap:Nat
def Nv.val (x:Nv):Value:= .agg #[.map x.m, .int .i64 (x.n:Int), .slice x.a x.n x.cap]
def vals (E:List (Int × Nv)):List (Int × Value):=E.map (fun x=>(x.1,x.2.val))
def getN (E:List (Int × Nv)) (d:Int):Nv:=match E.find? (fun x=>decide (x.1=d)) with |some x=>x.2|none=>⟨none,0,none,0⟩
theorem zy6 (E:List (Int × Nv)):(vals E).map (·.1)=E.map (·.1):=by simp [vals,List.map_map]
theorem ye3 {E:List (Int × Nv)} (h:E.Pairwise (fun a b=>a.1≠b.1)):(vals E).Pairwise (fun a b=>a.1≠b.1):=by
 unfold vals;rw [List.pairwise_map];exact h
theorem get_vals (E:List (Int × Nv)) (d:Int):MapI.getV (vals E) d (Nv.val ⟨none,0,none,0⟩)=(getN E d).val:=by
 unfold MapI.getV getN vals;rw [List.find?_map];have e:((fun n:Int × Value=>decide (n.1=d)) ∘ fun x:Int × Nv=>(x.1,x.2.val))=fun x=>decide (x.1=d):=rfl;rw [e];cases E.find? (fun x=>decide (x.1=d)) <;> rfl
theorem zv9 {E:List (Int × Nv)} (h:E.Pairwise (fun a b=>a.1≠b.1)) (d:Int):Maps.has (MapI.mapOf (vals E)) (MapI.key d)=decide (d∈E.map (·.1))∧(MapI.mapOf (vals E)).atKey (MapI.key d) (MapI.dat (Nv.val ⟨none,0,none,0⟩))=MapI.dat (.agg #[.map (getN E d).m, .int .i64 ((getN E d).n:Int), .slice (getN E d).a (getN E d).n (getN E d).cap]):=by
 have h1:=MapI.look (ye3 h) d (Nv.val ⟨none,0,none,0⟩);rw [zy6,get_vals] at h1;exact h1
theorem zv5 (w:World):(zeroValue 113).run Tryz.prog w= .ok (Nv.val ⟨none,0,none,0⟩) w:=by kernel_rfl
end Pl
end
section
open Go.RowKit
namespace Pl
theorem get_ge (s : ByteArray) (k : Nat) (h : k < s.size) : s.get! k = s[k] := by
  simp [ByteArray.get!, getElem!_pos, h]; rfl
theorem rune_other (s : ByteArray) (pos : Nat) (h : pos < s.size) (hb : s[pos].toNat ≠ 47) :
    ((Utf8.decode s pos).1 ≠ 47) ∧ 1 ≤ (Utf8.decode s pos).2 ∧ pos + (Utf8.decode s pos).2 ≤ s.size ∧ ∀ j (hj : j < s.size), pos ≤ j → j < pos + (Utf8.decode s pos).2 → s[j].toNat ≠ 47 := by
  by_cases ha : s[pos].toNat < 128
  · rw [decode_ascii s pos h ha]
    refine ⟨hb, Nat.le_refl _, h, fun j hj h1 h2 => ?_⟩
    obtain rfl : j = pos := by simp at h2; omega
    exact hb
  · have hh := decode_high s pos h (by omega)
    refine ⟨by omega, hh.2, ?_⟩
    have hg := get_ge s
    have key : pos + (Utf8.decode s pos).2 ≤ s.size ∧ ∀ k, 1 ≤ k → k < (Utf8.decode s pos).2 → (s.get! (pos + k)).toNat / 64 = 2 := by
      have h0 : s.get! (pos + 0) = s[pos] := hg pos h
      simp only [Utf8.decode, h0, ha, if_false]
      repeat' split
      all_goals simp_all
      all_goals first
        | omega
        | (refine ⟨by omega, fun k h1 h2 => ?_⟩
           rcases (show k = 1 ∨ k = 2 ∨ k = 3 by omega) with rfl | rfl | rfl <;> first | omega | (simp_all; done))
    refine ⟨key.1, fun j hj h1 h2 => ?_⟩
    by_cases he : j = pos
    · subst he; exact hb
    · have := key.2 (j - pos) (by omega) (by omega)
      rw [Nat.add_sub_cancel' h1, hg j hj] at this
      omega
theorem cutF_over {s : ByteArray} {fr : Nat} : ∀ n k, k + n ≤ s.size → (∀ j (hj : j < s.size), k ≤ j → j < k + n → s[j].toNat ≠ 47) → cutF s 47 (s.size - k) fr k = cutF s 47 (s.size - (k + n)) fr (k + n) := by
  intro n
  induction n with
  | zero => intro k _ _; rfl
  | succ n ih =>
    intro k hk h
    have hlt : k < s.size := by omega
    have hf : s.size - k = s.size - (k + 1) + 1 := by omega
    rw [hf, yf1 hlt (h k hlt (Nat.le_refl _) (by omega)), ih (k + 1) (by omega) (fun j hj h1 h2 => h j hj (by omega) (by omega))]
    have e : k + 1 + n = k + (n + 1) := by omega
    rw [e]
end Pl
namespace Mem
theorem own_iterAt {w : World} {B e size n : Nat} {v : Value} {xs : List Value} {k : Nat} {s : ByteArray} {pos : Nat} (h : w.ownsRow B e size v n xs) (hk : w.heap[k]? = some (.stringIter s pos)) (pos' : Nat) : (w.iterAt k s pos').ownsRow B e size v n xs := by
  refine ⟨h.1, ?_⟩
  rcases h.2 with h0 | ⟨g, cap, cur, hv, hb, hg, rest⟩
  · exact .inl h0
  · refine .inr ⟨g, cap, cur, hv, hb, ?_, rest⟩
    rw [Lib.iterAt_other _ _ _ _ _ (fun e => by subst e; rw [hk] at hg; cases hg)]
    exact hg
theorem own_no_iter {w : World} {B e size n : Nat} {v : Value} {xs : List Value} {k : Nat} {s : ByteArray} {pos : Nat} (h : w.ownsRow B e size v n xs) (hk : w.heap[k]? = some (.stringIter s pos)) : some k ≠ v.ownBlock := by
  rcases h.2 with ⟨rfl, _⟩ | ⟨g, cap, cur, rfl, hb, hg, rest⟩
  · simp [Value.ownBlock]
  · intro e
    simp only [Value.ownBlock, Option.some.injEq] at e
    subst e
    rw [hk] at hg
    cases hg
end Mem
namespace WWords
theorem infoS : (Tryz.prog.info? 9).map (fun i => (i.zero, i.size, i.bytes)) = some (some (.string ⟨#[]⟩), 1, 16) := by kernel_rfl

set_option maxRecDepth 100000 in
set_option maxHeartbeats 400000 in
theorem any (s : ByteArray) (w : World) (hs : s.size ≤ 1048576) :
    Calls Tryz.prog 134 #[.string s] w fun e w' => ∃ v, e = .returned v ∧
      w'.ownsRow w.heap.size 9 1 v (Pl.cut s 47).length ((Pl.cut s 47).map Value.string) ∧ Below w.heap.size w w' := by
  obtain ⟨i0, hi, hz0, hz1, hz2⟩ := info_parts infoS
  go_enter Tryz.func134, Tryz.ntmps134
  go_wp2
  go_loopw [3, 4] (fun v x wr => ∃ (pos fr : Nat) (L : List ByteArray), pos ≤ s.size ∧ fr ≤ pos ∧ L.length ≤ pos ∧ x = .int .i64 (fr : Int) ∧
      wr.ownsRow w.heap.size 9 1 v L.length (L.map Value.string) ∧ wr.heap[w.heap.size + 1]? = some (.stringIter s pos) ∧ Below w.heap.size w wr ∧ Hid (Pl.cut s 47 = L ++ Pl.cutF s 47 (s.size - pos) fr pos)) (fun _ _ wr => s.size - wr.iterPos (w.heap.size + 1))
  case atStart =>
    refine ⟨0, 0, [], by omega, by omega, by simp, rfl, (World.ownsRow_made _ _ 0 (Nat.le_refl _) (Nat.zero_le _) rfl).alloc _, ?_, ((Below.refl _ _).alloc (Nat.le_refl _) _).alloc (by simp) _, rfl⟩
    have := World.iter_heap (w.alloc (.cells #[] 9)) s 0
    simpa using this
  case round =>
    obtain ⟨pos, fr, L, hk, hfr, hL, rfl, hown, hit, hbel, H⟩ := hrel
    have hb1 := hbel.size
    have hsz : w.heap.size + 1 < wr.heap.size := (Array.getElem?_eq_some_iff.1 hit).1
    have hip : wr.iterPos (w.heap.size + 1) = pos := by simp only [World.iterPos, hit]
    by_cases hlt : pos < s.size
    · by_cases hq : s[pos].toNat = 47
      · have ha : s[pos].toNat < 128 := by omega
        have hnx : ∀ ty, (Instr.next (.pointer (some ⟨w.heap.size + 1, 0, none⟩)) true ty).run Tryz.prog wr = .ok (.tuple #[.bool true, .int .i64 pos, .int .i32 47]) (wr.iterAt (w.heap.size + 1) s (pos + 1)) := fun ty => by
          rw [Lib.run_next_ascii_at wr (w.heap.size + 1) s pos ty hit hlt ha, hq]; rfl
        have hf : s.size - pos = s.size - (pos + 1) + 1 := by omega
        have H2 : Hid (Pl.cut s 47 = (L ++ [s.extract fr pos]) ++ Pl.cutF s 47 (s.size - (pos + 1)) (pos + 1) (pos + 1)) := by
          show _ = _
          rw [H.out, hf, Pl.cutF_hit hlt hq]; simp
        have hown2 := Mem.own_iterAt hown hit (pos + 1)
        have hit2 := Lib.iterAt_heap wr (w.heap.size + 1) s pos (pos + 1) hit
        have hbel2 := Lib.below_iterAt hbel (k := w.heap.size + 1) (by omega) s (pos + 1)
        have hsz2 : Hid ((wr.iterAt (w.heap.size + 1) s (pos + 1)).heap.size = wr.heap.size) := Lib.iterAt_size _ _ _ _
        have hne := Mem.own_no_iter hown2 hit2
        generalize wr.iterAt (w.heap.size + 1) s (pos + 1) = w1 at hnx hown2 hit2 hbel2 hsz2
        have t1 : (0 : Int) ≤ (fr : Int) := by omega
        have t2 : (fr : Int) ≤ (pos : Int) := by omega
        have t3 : (pos : Int) ≤ (s.size : Int) := by omega
        clear H hf hq hown hit hbel ha
        go_wp2_with (at_builtin; refine wpList_append_own _ rfl _ _ 159 rfl w.heap.size 9 i0 (.string ⟨#[]⟩) 1 16 Tryz.underlying159 hi hz0 hz1 hz2 rfl (by decide) _ _ _ rfl (hown2.alloc _) ⟨w1.heap.size, 0, none⟩ 1 1 [.string (s.extract fr pos)] rfl rfl ?c1 ?c2 ?c3 ?c4 ?c5 ?_)
        case c1 => exact Mem.zi1 _ _ _
        case c2 => intro u hu; simp at hu; subst hu; rfl
        case c3 => unfold maxLen; omega
        case c4 => omega
        case c5 => have := hsz2.out; simp; omega
        · intro v' w2 hown' hgrow _
          have hsz2 := hsz2.out
          have hbel' := Mem.zh2 hbel2 (Nat.le_refl _) hown2 hgrow
          have hown3 : w2.ownsRow w.heap.size 9 1 v' (L ++ [s.extract fr pos]).length ((L ++ [s.extract fr pos]).map Value.string) := by simpa using hown'
          have hit3 : w2.heap[w.heap.size + 1]? = some (.stringIter s (pos + 1)) :=
            (hgrow.block (w.heap.size + 1) (by simp; omega) hne).trans ((Below.heap_alloc _ _ _ (by omega)).trans hit2)
          have hip3 : w2.iterPos (w.heap.size + 1) = pos + 1 := by simp only [World.iterPos, hit3]
          clear hgrow hown2 hbel2 hown' hnx hit2
          go_wp2
          go_roundw
          case rel => exact ⟨pos + 1, pos + 1, L ++ [s.extract fr pos], by omega, by omega, by simp; omega, by go_num, hown3, hit3, hbel', H2⟩
          case measure => rw [hip3, hip]; omega
      · obtain ⟨r1, r2, r3, r4⟩ := Pl.rune_other s pos hlt hq
        have hnx : ∀ ty, (Instr.next (.pointer (some ⟨w.heap.size + 1, 0, none⟩)) true ty).run Tryz.prog wr = .ok (.tuple #[.bool true, .int .i64 pos, .int .i32 (Utf8.decode s pos).1]) (wr.iterAt (w.heap.size + 1) s (pos + (Utf8.decode s pos).2)) := fun ty =>
          Lib.run_next_any_at wr (w.heap.size + 1) s pos ty hit hlt
        have H2 : Hid (Pl.cut s 47 = L ++ Pl.cutF s 47 (s.size - (pos + (Utf8.decode s pos).2)) fr (pos + (Utf8.decode s pos).2)) := by
          show _ = _
          rw [H.out, Pl.cutF_over _ pos r3 r4]
        have hown2 := Mem.own_iterAt hown hit (pos + (Utf8.decode s pos).2)
        have hit2 := Lib.iterAt_heap wr (w.heap.size + 1) s pos (pos + (Utf8.decode s pos).2) hit
        have hbel2 := Lib.below_iterAt hbel (k := w.heap.size + 1) (by omega) s (pos + (Utf8.decode s pos).2)
        have hip2 : (wr.iterAt (w.heap.size + 1) s (pos + (Utf8.decode s pos).2)).iterPos (w.heap.size + 1) = pos + (Utf8.decode s pos).2 := by simp only [World.iterPos, hit2]
        have t4 : (((Utf8.decode s pos).1 : Int) == 47) = false := by rw [beq_eq_false_iff_ne]; omega
        generalize hD : (Utf8.decode s pos).2 = n at *
        generalize (Utf8.decode s pos).1 = r at *
        generalize wr.iterAt (w.heap.size + 1) s (pos + n) = w1 at *
        clear H hq hown hit hbel r4 hD r1
        go_wp2
        go_roundw
        case rel => exact ⟨pos + n, fr, L, r3, by omega, by omega, rfl, hown2, hit2, hbel2, H2⟩
        case measure => rw [hip2, hip]; omega
    · obtain rfl : pos = s.size := by omega
      have hnx : ∀ ty, (Instr.next (.pointer (some ⟨w.heap.size + 1, 0, none⟩)) true ty).run Tryz.prog wr = .ok (.tuple #[.bool false]) wr := fun ty => Lib.run_next_end_at wr (w.heap.size + 1) s s.size ty hit hlt
      have H2 : Hid (Pl.cut s 47 = L ++ [s.extract fr s.size]) := by
        show _ = _
        rw [H.out, Nat.sub_self]; rfl
      have t1 : (0 : Int) ≤ (fr : Int) := by omega
      have t2 : (fr : Int) ≤ (s.size : Int) := by omega
      clear H
      go_wp2_with (at_builtin; refine wpList_append_own _ rfl _ _ 159 rfl w.heap.size 9 i0 (.string ⟨#[]⟩) 1 16 Tryz.underlying159 hi hz0 hz1 hz2 rfl (by decide) _ _ _ rfl (hown.alloc _) ⟨wr.heap.size, 0, none⟩ 1 1 [.string (s.extract fr s.size)] rfl rfl ?c1 ?c2 ?c3 ?c4 ?c5 ?_)
      case c1 => exact Mem.zi1 _ _ _
      case c2 => intro u hu; simp at hu; subst hu; rfl
      case c3 => unfold maxLen; omega
      case c4 => omega
      case c5 => simp; omega
      · intro v' w2 hown' hgrow _
        have hbel' := Mem.zh2 hbel (Nat.le_refl _) hown hgrow
        have hown2 : w2.ownsRow w.heap.size 9 1 v' (Pl.cut s 47).length ((Pl.cut s 47).map Value.string) := by rw [H2.out]; simpa using hown'
        clear hgrow hown hbel hown'
        go_wp2
        go_ret
        exact ⟨_, rfl, hown2, hbel'⟩
end WWords
end
section
open Go.RowKit
namespace WName

set_option maxHeartbeats 400000 in
theorem ye5 (s:ByteArray) (w:World) (hs:s.size≤maxLen):
  Calls Tryz.prog 99 #[.string s] w fun e w'=>e= .returned (.bool (Pl.zc8 s))∧w'=w:=by
 unfold maxLen at hs;by_cases h1:s.size<1
 ·have e0:=hide (Pl.yh5 h1);go_enter Tryz.func99,Tryz.ntmps99
  go_wp2
  go_ret
  exact ⟨za2 (za e0).symm,rfl⟩
 by_cases h2:20<s.size
 ·have e0:=hide (Pl.yd8 h2);go_enter Tryz.func99,Tryz.ntmps99
  go_wp2
  go_ret
  exact ⟨za2 (za e0).symm,rfl⟩
 go_enter Tryz.func99,Tryz.ntmps99
 go_wp2
 go_loop [3] (fun i=>∃k:Nat,k≤s.size∧i= .int .i64 k∧Hid (∀j,j<k→Pl.okAt j ((s.data.toList.getD j 0).toNat))) (fun i=>s.size - (intOf i).toNat)
 case atStart=>exact ⟨0,Nat.zero_le _,rfl,fun j hj=>absurd hj (by omega)⟩
 case round=>
  obtain ⟨k,hk,rfl,hok⟩:=hrel;by_cases hlt:k<s.size
  ·by_cases hk0:k=0
   ·subst hk0;have okc:∀n:Nat,Pl.okAt 0 n↔(97≤n∧n≤122):=fun n=>by unfold Pl.okAt;omega
    have OK:=hide okc;clear okc
    rcases Pl.kinds (s[0].toNat:Int) with ⟨a1,a2⟩|⟨a1,a2,a3,a4⟩|⟨a1,a2,a3,a4⟩|⟨a1,a2,a3,a4⟩|⟨a1,a2,a3⟩|⟨a1,a2,a3,a4,a5⟩
    ·go_wp2
     go_round
     case rel=>exact ⟨1,by omega,rfl,Pl.yc3 hok.out hlt ((za OK _).2 (by omega))⟩
     case measure=>simp [intOf];omega
    all_goals
     go_wp2
     go_ret
     exact ⟨za2 (Pl.zw9 0 hlt (by rw [za OK];omega)).symm,rfl⟩
   ·have hkb:((k:Int)==0)=false:=by simp;omega
    have okc:∀n:Nat,Pl.okAt k n↔(97≤n∧n≤122)∨(48≤n∧n≤57)∨n=95:=fun n=>by unfold Pl.okAt;omega
    have OK:=hide okc;clear okc
    rcases Pl.kinds (s[k].toNat:Int) with ⟨a1,a2⟩|⟨a1,a2,a3,a4⟩|⟨a1,a2,a3,a4⟩|⟨a1,a2,a3,a4⟩|⟨a1,a2,a3⟩|⟨a1,a2,a3,a4,a5⟩
    ·go_wp2
     go_round
     case rel=>exact ⟨k+1,by omega,by go_num,Pl.yc3 hok.out hlt ((za OK _).2 (by omega))⟩
     case measure=>simp [intOf];omega
    ·go_wp2
     go_round
     case rel=>exact ⟨k+1,by omega,by go_num,Pl.yc3 hok.out hlt ((za OK _).2 (by omega))⟩
     case measure=>simp [intOf];omega
    ·go_wp2
     go_ret
     exact ⟨za2 (Pl.zw9 k hlt (by rw [za OK];simp at a4;omega)).symm,rfl⟩
    ·go_wp2
     go_round
     case rel=>exact ⟨k+1,by omega,by go_num,Pl.yc3 hok.out hlt ((za OK _).2 (by simp at a4;omega))⟩
     case measure=>simp [intOf];omega
    all_goals
     go_wp2
     go_ret
     exact ⟨za2 (Pl.zw9 k hlt (by rw [za OK];omega)).symm,rfl⟩
  ·have e0:Pl.zc8 s=true:=Pl.yj2 h1 h2 (fun j hj=>hok.out j (by omega));have E0:=hide e0;clear e0;go_wp2
   go_ret
   exact ⟨za2 (za E0).symm,rfl⟩

set_option maxHeartbeats 400000 in
theorem yd0 (s:ByteArray) (w:World) (hs:s.size≤maxLen):
  Calls Tryz.prog 135 #[.string s] w fun e w'=>e= .returned (.bool (Pl.zc8 s))∧w'=w:=by
 unfold maxLen at hs;by_cases h1:s.size<1
 ·have e0:=hide (Pl.yh5 h1);go_enter Tryz.func135,Tryz.ntmps135
  go_wp2
  go_ret
  exact ⟨za2 (za e0).symm,rfl⟩
 by_cases h2:20<s.size
 ·have e0:=hide (Pl.yd8 h2);go_enter Tryz.func135,Tryz.ntmps135
  go_wp2
  go_ret
  exact ⟨za2 (za e0).symm,rfl⟩
 have hp:0<s.size:=by omega
 by_cases hl:97≤(s[0].toNat:Int)∧(s[0].toNat:Int)≤122
 ·obtain ⟨l1,l2⟩:=hl;have H0:Hid (Pl.okAt 0 s[0].toNat):=Or.inl (by omega);go_enter Tryz.func135,Tryz.ntmps135
  go_wp2
  go_loop [21] (fun i=>∃k:Nat,k≤s.size∧i= .int .i64 k∧Hid (∀j,j<k→Pl.okAt j ((s.data.toList.getD j 0).toNat))) (fun i=>s.size - (intOf i).toNat)
  case atStart=>exact ⟨0,Nat.zero_le _,rfl,fun j hj=>absurd hj (by omega)⟩
  case round=>
   obtain ⟨k,hk,rfl,hok⟩:=hrel;by_cases hlt:k<s.size
   ·have hstep:Hid ((97≤s[k].toNat∧s[k].toNat≤122)∨(48≤s[k].toNat∧s[k].toNat≤57)∨s[k].toNat=95→∀j,j<k+1→Pl.okAt j ((s.data.toList.getD j 0).toNat)):=by
     intro ho;refine Pl.yc3 hok.out hlt ?_;by_cases hk0:k=0
     ·subst hk0;exact H0
     ·unfold Pl.okAt;omega
    have hbad:Hid (¬ ((97≤s[k].toNat∧s[k].toNat≤122)∨(48≤s[k].toNat∧s[k].toNat≤57)∨s[k].toNat=95)→Pl.zc8 s=false):=by
     intro hn;exact Pl.zw9 k hlt (by unfold Pl.okAt;omega)
    clear l1 l2 H0 hok
    rcases Pl.kinds (s[k].toNat:Int) with ⟨a1,a2⟩|⟨a1,a2,a3,a4⟩|⟨a1,a2,a3,a4⟩|⟨a1,a2,a3,a4⟩|⟨a1,a2,a3⟩|⟨a1,a2,a3,a4,a5⟩
    ·go_wp2
     go_round
     case rel=>exact ⟨k+1,by omega,by go_num,hstep.out (by omega)⟩
     case measure=>simp [intOf];omega
    ·go_wp2
     go_round
     case rel=>exact ⟨k+1,by omega,by go_num,hstep.out (by omega)⟩
     case measure=>simp [intOf];omega
    ·go_wp2
     go_ret
     exact ⟨za2 (hbad.out (by simp at a4;omega)).symm,rfl⟩
    ·go_wp2
     go_round
     case rel=>exact ⟨k+1,by omega,by go_num,hstep.out (by simp at a4;omega)⟩
     case measure=>simp [intOf];omega
    all_goals
     go_wp2
     go_ret
     exact ⟨za2 (hbad.out (by omega)).symm,rfl⟩
   ·have e0:Pl.zc8 s=true:=Pl.yj2 h1 h2 (fun j hj=>hok.out j (by omega));have E0:=hide e0;clear e0;go_wp2
    go_ret
    exact ⟨za2 (za E0).symm,rfl⟩
 ·have e0:Pl.zc8 s=false:=Pl.zw9 0 hp (by unfold Pl.okAt;omega);have E0:=hide e0;clear e0;by_cases g1:97≤(s[0].toNat:Int)
  ·have g2:¬ (s[0].toNat:Int)≤122:=by omega
   clear hl;go_enter Tryz.func135,Tryz.ntmps135
   go_wp2
   go_ret
   exact ⟨za2 (za E0).symm,rfl⟩
  ·clear hl;go_enter Tryz.func135,Tryz.ntmps135
   go_wp2
   go_ret
   exact ⟨za2 (za E0).symm,rfl⟩
end WName
end
section
open Go.RowKit
namespace Mem
theorem texts {w:World} {B T:Nat} {v:Value} {L:List ByteArray} (h:w.ownsRow B T 1 v L.length (L.map Value.string)):
  (v= .slice none 0 0∧L=[])∨∃g cap,v= .slice (some ⟨g,0,none⟩) L.length cap∧L.length≤cap∧cap≤maxLen∧B≤g∧g<w.heap.size∧∀ (k:Nat) t,L[k]? =some t→w.cell? ⟨g,k,none⟩=some (.string t):=by
 rcases h.2 with ⟨rfl,h0⟩|⟨g,cap,cur,rfl,hgb,hg,hcap,hm,hsz,htk⟩
 ·exact .inl ⟨rfl,List.eq_nil_of_length_eq_zero h0⟩
 ·refine .inr ⟨g,cap,rfl,hcap,hm,hgb,(Array.getElem?_eq_some_iff.1 hg).1,fun k t ht=>?_⟩;have hk:=(List.getElem?_eq_some_iff.1 ht).1;rw [cell_of_row w g k cur T (0,0) hg];have h1:(cur.toList.take (L.length*1))[k]? =(L.map Value.string)[k]?:=by rw [htk]
  rw [List.getElem?_take_of_lt (by omega),List.getElem?_map,ht] at h1
  simpa using h1
theorem one_str (t:ByteArray):∀u∈[Value.string t],u.oneCell'=true:=by
 intro u hu;simp at hu;subst hu;rfl
def zi0 (w:World) (v:Value) (ts:List ByteArray):Prop:=
 (v= .slice none 0 0∧ts=[])∨∃b o cap,v= .slice (some ⟨b,o,none⟩) ts.length cap∧b<w.heap.size∧∀ (j:Nat) t,ts[j]? =some t→w.cell? ⟨b,o+j,none⟩=some (.string t)
theorem zg7 {w:World} {B T:Nat} {v:Value} {L:List ByteArray} (h:w.ownsRow B T 1 v L.length (L.map Value.string)):zi0 w v L:=by
 rcases texts h with h|⟨g,cap,h1,h2,h3,h4,h5,h6⟩
 ·exact .inl h
 ·exact .inr ⟨g,0,cap,h1,h5,fun j t ht=>by rw [Nat.zero_add];exact h6 j t ht⟩
theorem take_texts {w:World} {g cap:Nat} {L:List ByteArray} (hg:g<w.heap.size) (hc:∀ (k:Nat) t,L[k]? =some t→w.cell? ⟨g,k,none⟩=some (.string t)) (n:Nat) (hn:n≤L.length):
  zi0 w (.slice (some ⟨g,0,none⟩) n cap) (L.take n):=by
 refine .inr ⟨g,0,cap,by rw [List.length_take,Nat.min_eq_left hn],hg,fun j t ht=>?_⟩;rw [Nat.zero_add];refine hc j t ?_;have hj:j<n:=by have :=(List.getElem?_eq_some_iff.1 ht).1;rw [List.length_take] at this;omega
 rwa [List.getElem?_take_of_lt hj] at ht
theorem drop_texts {w:World} {g cap:Nat} {L:List ByteArray} (hg:g<w.heap.size) (hc:∀ (k:Nat) t,L[k]? =some t→w.cell? ⟨g,k,none⟩=some (.string t)) (n:Nat):
  zi0 w (.slice (some ⟨g,n,none⟩) (L.length - n) cap) (L.drop n):=by
 refine .inr ⟨g,n,cap,by rw [List.length_drop],hg,fun j t ht=>?_⟩;refine hc (n+j) t ?_
 rwa [List.getElem?_drop] at ht
theorem own_below {w w':World} {B B' e size n:Nat} {v:Value} {xs:List Value} (h:w.ownsRow B e size v n xs) (hb:Below B' w w') (hB:∀k,v.ownBlock=some k→k<B'):w'.ownsRow B e size v n xs:=by
 refine ⟨h.1,?_⟩
 rcases h.2 with h0|⟨g,cap,cur,rfl,hgb,hg,rest⟩
 ·exact .inl h0
 ·exact .inr ⟨g,cap,cur,rfl,hgb,(hb.block g (hB g rfl)).trans hg,rest⟩
theorem zj0 {w w':World} {B e size n:Nat} {v:Value} {xs:List Value} (h:w.ownsRow B e size v n xs) (hb:Below w.heap.size w w'):w'.ownsRow B e size v n xs:=
 own_below h hb (fun k hk=>(h.lt k hk).2)
theorem texts_call {w w':World} {v:Value} {ts:List ByteArray} (h:zi0 w v ts) (hb:Below w.heap.size w w'):zi0 w' v ts:=by
 rcases h with h|⟨b,o,cap,rfl,hlt,hc⟩
 ·exact .inl h
 ·exact .inr ⟨b,o,cap,rfl,Nat.lt_of_lt_of_le hlt hb.size,fun j t ht=>(hb.cell (p:=⟨b,o+j,none⟩) hlt).trans (hc j t ht)⟩
theorem below_drewN {B:Nat} {a w:World} (h:Below B a w) (q:Nat):Below B a (w.drewN q):=h.trans ⟨rfl,rfl,rfl,Nat.le_refl _,fun _ _=>rfl⟩
theorem zu8 {w:World} {v:Value} {ts:List ByteArray} (h:zi0 w v ts):∃a cap,v= .slice a ts.length cap:=by
 rcases h with ⟨rfl,rfl⟩|⟨b,o,cap,rfl,_⟩ <;> exact ⟨_,_,rfl⟩
end Mem
end
section
open Go.RowKit
namespace yc2
set_option maxRecDepth 100000 in
set_option maxHeartbeats 400000 in
theorem any (s:ByteArray) (w:World) (hs:s.size≤1048576):
  Calls Tryz.prog 111 #[.string s] w fun e w'=>∃v,e= .returned (.tuple #[v, .bool (Pl.za0 s)])∧
   w'.ownsRow w.heap.size 9 1 v (Pl.za8 s).length ((Pl.za8 s).map Value.string)∧Below w.heap.size w w':=by
 by_cases h0:s.size=0
 ·have E:=hide (Pl.zh7 h0).1;have E2:=hide ((Pl.zd1 (Pl.zh7 h0).1).trans (Pl.zh7 h0).2);obtain rfl:s=⟨#[]⟩:=by apply ByteArray.ext;exact Array.eq_empty_of_size_eq_zero h0
  go_enter Tryz.func111,Tryz.ntmps111
  go_wp2
  go_ret2
  refine ⟨.slice none 0 0,by rw [za E];rfl,?_,Below.refl _ _⟩;rw [za E2];exact World.ownsRow_nil _ _ _ _
 have t0:s.toList.isEmpty=false:=by
  rw [List.isEmpty_eq_false_iff,ByteArray.toList_eq];intro h;have h1:s.data.toList.length=0:=by rw [h];rfl
  rw [Array.length_toList] at h1;exact h0 h1
 have E1:Hid (Pl.names s=Pl.cut s 47):=if_neg h0;by_cases h8:8000<s.size
 ·have E:=hide (Pl.zn0 (s:=s) (by omega));have E2:=hide (Pl.ya9 (za E));go_enter Tryz.func111,Tryz.ntmps111
  go_wp2
  go_ret2
  refine ⟨.slice none 0 0,by rw [za E];rfl,?_,Below.refl _ _⟩;rw [za E2];exact World.ownsRow_nil _ _ _ _
 have hpos:=Pl.cut_pos s;have hlen:=Pl.cut_length s
 have HSZ:Hid (∀ (k:Nat) t,(Pl.cut s 47)[k]? =some t→t.size≤maxLen):=fun k t ht=>by
  have :=Pl.cut_size ht;unfold maxLen;omega
 have HLONG:Hid (6<(Pl.cut s 47).length→Pl.za0 s=false):=fun h=>by
  rw [Pl.yb4,E1.out];simp;intro _;omega
 have HBAD:Hid (∀ (k:Nat) t,(Pl.cut s 47)[k]? =some t→Pl.zc8 t=false→Pl.za0 s=false):=fun k t ht hb=>Pl.pathB_bad (by rw [E1.out];exact ht) hb
 have HGOOD:Hid ((Pl.cut s 47).length≤6→(∀ (j:Nat) t,(Pl.cut s 47)[j]? =some t→Pl.zc8 t=true)→Pl.za0 s=true∧Pl.za8 s=Pl.cut s 47):=fun h6 h=>by
  have h1:Pl.za0 s=true:=by
   rw [Pl.yb4,E1.out];simp [h6]
   intro t ht;obtain ⟨j,hj⟩:=List.mem_iff_getElem?.1 ht;exact h j t hj
  exact ⟨h1,by rw [Pl.zd1 h1,E1.out]⟩
 have hn:=hide (WWords.any s w hs);generalize Pl.cut s 47=L at hn hlen HSZ HBAD HGOOD HLONG hpos;go_enter Tryz.func111,Tryz.ntmps111
 go_wp2_with fail
 refine (za hn).mono ?_;rintro e w1 ⟨v,rfl,hown,hbel⟩;have HO:=hide hown
 rcases Mem.texts hown with ⟨rfl,rfl⟩|⟨g,cap,rfl,hcap,hm,hgb,hgl,hcell⟩
 ·simp at hpos
 have HC:=hide hcell;clear hcell hown hn;have hm2:=hm;unfold maxLen at hm2;by_cases h6:6<L.length
 ·have E:=hide (HLONG.out h6);have E2:=hide (Pl.ya9 (za E));go_wp2
  go_ret2
  refine ⟨.slice none 0 0,by rw [za E];rfl,?_,hbel⟩;rw [za E2];exact World.ownsRow_nil _ _ _ _
 go_wp2
 go_loop [19] (fun i=>∃k:Nat,k≤L.length∧i= .int .i64 (k:Int)∧Hid (∀ (j:Nat) t,j<k→L[j]? =some t→Pl.zc8 t=true)) (fun i=>L.length - (intOf i).toNat)
 case atStart=>exact ⟨0,Nat.zero_le _,rfl,fun j t h=>absurd h (by omega)⟩
 case round=>
  obtain ⟨k,hk,rfl,HA⟩:=hrel;by_cases hlt:k<L.length
  ·obtain ⟨t,ht⟩:∃t,L[k]? =some t:=⟨_,List.getElem?_eq_getElem hlt⟩;have hc:=HC.out k t ht;have hts:=HSZ.out k t ht;cases hb:Pl.zc8 t
   ·have E:=hide (HBAD.out k t ht hb);have E2:=hide (Pl.ya9 (za E));have HB:=hide hb;clear ht hb;go_wp2_with (go_at_call 135;refine (WName.yd0 t _ hts).mono ?_;rw [za HB];rintro e w' ⟨rfl,hw⟩;obtain rfl:=hw.symm)
    go_ret2
    refine ⟨.slice none 0 0,by rw [za E];rfl,?_,hbel⟩;rw [za E2];exact World.ownsRow_nil _ _ _ _
   ·have HB:=hide hb
    have HA2:Hid (∀ (j:Nat) t,j<k+1→L[j]? =some t→Pl.zc8 t=true):=fun j t' hj h'=>by
     rcases Nat.lt_succ_iff_lt_or_eq.1 hj with h''|rfl
     ·exact HA.out j t' h'' h'
     ·rw [ht] at h';cases h';exact hb
    clear ht hb HA;go_wp2_with (go_at_call 135;refine (WName.yd0 t _ hts).mono ?_;rw [za HB];rintro e w' ⟨rfl,hw⟩;obtain rfl:=hw.symm)
    go_round
    case rel=>exact ⟨k+1,by omega,by go_num,HA2⟩
    case measure=>simp [intOf];omega
  ·have E:=hide (HGOOD.out (by omega) (fun j t h=>HA.out j t (by have :=(List.getElem?_eq_some_iff.1 h).1;omega) h));clear HA;go_wp2
   go_ret2
   exact ⟨.slice (some ⟨g,0,none⟩) L.length cap,by rw [(za E).1];rfl,by rw [(za E).2];exact za HO,hbel⟩
end yc2
end
section
open Go.RowKit
namespace zv2
set_option maxRecDepth 100000 in
theorem both_any (a b:ByteArray) (w:World) (ha:a.size≤1048576) (hb:b.size≤1048576):
  Calls Tryz.prog 136 #[.string a, .string b] w fun e w'=>∃v1 v2 m,e= .returned (.tuple #[v1,v2, .bool (Pl.za0 a&&Pl.za0 b)])∧w.heap.size≤m∧
   w'.ownsRow w.heap.size 9 1 v1 (Pl.za8 a).length ((Pl.za8 a).map Value.string)∧(∀k,v1.ownBlock=some k→k<m)∧
   w'.ownsRow m 9 1 v2 (Pl.za8 b).length ((Pl.za8 b).map Value.string)∧Below w.heap.size w w':=by
 have hn1:=hide (fun W=>yc2.any a W ha);have hn2:=hide (fun W=>yc2.any b W hb);generalize Pl.za0 a=r1 at hn1 ⊢;generalize Pl.za0 b=r2 at hn2 ⊢;generalize Pl.za8 a=A at hn1 ⊢;generalize Pl.za8 b=B at hn2 ⊢;cases r1 <;> cases r2
 all_goals
  go_enter Tryz.func136,Tryz.ntmps136
  go_wp2_with fail
  refine (za hn1 _).mono ?_;rintro e w1 ⟨v1,rfl,hown1,hb1⟩;have HO1:=hide hown1;clear hown1;go_wp2_with fail
  refine (za hn2 _).mono ?_;rintro e w2 ⟨v2,rfl,hown2,hb2⟩;have HO2:=hide hown2;clear hown2
  have H:Hid (∃m,w.heap.size≤m∧w2.ownsRow w.heap.size 9 1 v1 A.length (A.map Value.string)∧(∀k,v1.ownBlock=some k→k<m)∧
    w2.ownsRow m 9 1 v2 B.length (B.map Value.string)∧Below w.heap.size w w2):=
   ⟨w1.heap.size,hb1.size,Mem.zj0 (za HO1) hb2,fun k hk=>((za HO1).lt k hk).2,za HO2,hb1.trans (hb2.mono hb1.size)⟩
  clear hb1 hb2 HO1 HO2;go_wp2
  go_ret3
  obtain ⟨m,h1,h2,h3,h4,h5⟩:=H.out;exact ⟨v1,v2,m,rfl,h1,h2,h3,h4,h5⟩
end zv2
end
section
open Go.RowKit
namespace WLess
set_option maxRecDepth 100000 in
set_option maxHeartbeats 400000 in
theorem ahead_any (v u:Value) (A B:List ByteArray) (w:World) (hA:A.length≤1000) (hB:B.length≤1000) (hv:Mem.zi0 w v A) (hu:Mem.zi0 w u B):
  Calls Tryz.prog 161 #[v,u] w fun e w'=>e= .returned (.bool (Pl.za4 A B))∧Below w.heap.size w w':=by
 have HE:Hid (∀k,k=A.length∧k≤B.length∨k=B.length∧k≤A.length→Pl.za4 (A.drop k) (B.drop k)=decide (A.length<B.length)):=fun k h=>Pl.less_end h;by_cases h0:A=[]∨B=[]
 ·have E:Hid (Pl.za4 A B=decide (A.length<B.length)):=by
   show _=_;have :=HE.out 0 (by rcases h0 with rfl |rfl <;> simp)
   simpa using this
  obtain ⟨va,vc,rfl⟩:=Mem.zu8 hv;obtain ⟨ua,uc,rfl⟩:=Mem.zu8 hu;clear hv hu HE
  rcases h0 with rfl |rfl
  ·have t0:(([]:List ByteArray).length:Int)≤(B.length:Int):=by simp
   go_enter Tryz.func161,Tryz.ntmps161
   go_wp2
   go_loop [11] (fun i=>i= .int .i64 0) (fun _=>0)
   case atStart=>rfl
   case round=>
    subst hrel;go_wp2
    go_ret
    exact ⟨za2 (by rw [E.out];simp),Below.refl _ _⟩
  ·by_cases hA0:A=[]
   ·subst hA0;go_enter Tryz.func161,Tryz.ntmps161
    go_wp2
    go_loop [11] (fun i=>i= .int .i64 0) (fun _=>0)
    case atStart=>rfl
    case round=>
     subst hrel;go_wp2
     go_ret
     exact ⟨za2 (by rw [E.out];simp),Below.refl _ _⟩
   ·have hp:0<A.length:=List.length_pos_iff.2 hA0;have t0:¬ (A.length:Int)≤0:=by omega
    have t1:¬ (A.length:Int)<0:=by omega
    have t2:(0:Int)<(A.length:Int):=by omega
    go_enter Tryz.func161,Tryz.ntmps161
    go_wp2
    go_loop [11] (fun i=>i= .int .i64 0) (fun _=>0)
    case atStart=>rfl
    case round=>
     subst hrel;go_wp2
     go_ret
     exact ⟨za2 (by rw [E.out];simp),Below.refl _ _⟩
 ·rcases hu with ⟨_,rfl⟩|⟨b,o,cap,rfl,hb,hcb⟩
  ·simp at h0
  rcases hv with ⟨_,rfl⟩|⟨b',o',cap',rfl,hb',hca⟩
  ·simp at h0
  have HA:=hide hca;have HB:=hide hcb;clear hca hcb h0;have HS:Hid (Pl.za4 A B=Pl.za4 (A.drop 0) (B.drop 0)):=rfl;have HT:Hid (∀k a b,A[k]? =some a→B[k]? =some b→a=b→Pl.za4 (A.drop k) (B.drop k)=Pl.za4 (A.drop (k+1)) (B.drop (k+1))):=fun k a b h1 h2 h3=>Pl.less_same h1 h2 h3;have HF:Hid (∀k a b,A[k]? =some a→B[k]? =some b→a≠b→Pl.za4 (A.drop k) (B.drop k)=Op.bytesLess a.toList b.toList):=fun k a b h1 h2 h3=>Pl.yk9 h1 h2 h3;generalize Pl.za4 A B=R at HS ⊢;by_cases hAB:A.length≤B.length
  ·have t0:(A.length:Int)≤(B.length:Int):=by omega
   go_enter Tryz.func161,Tryz.ntmps161
   go_wp2
   go_loopw [11] (fun i wr=>∃k:Nat,k≤A.length∧i= .int .i64 (k:Int)∧Below w.heap.size w wr∧Hid (R=Pl.za4 (A.drop k) (B.drop k))) (fun i _=>A.length - (intOf i).toNat)
   case atStart=>exact ⟨0,Nat.zero_le _,rfl,Below.refl _ _,HS⟩
   case round=>
    obtain ⟨k,hk,rfl,hbel,HR⟩:=hrel;by_cases hlt:k<A.length
    ·obtain ⟨y,hy⟩:∃y,B[k]? =some y:=⟨_,List.getElem?_eq_getElem (by omega)⟩;obtain ⟨x,hx⟩:∃x,A[k]? =some x:=⟨_,List.getElem?_eq_getElem (by omega)⟩;have hc1:wr.cell? ⟨b,o+k,none⟩=some (.string y):=(hbel.cell (p:=⟨b,o+k,none⟩) hb).trans (HB.out k y hy);have hc2:wr.cell? ⟨b',o'+k,none⟩=some (.string x):=(hbel.cell (p:=⟨b',o'+k,none⟩) hb').trans (HA.out k x hx);have u1:(k:Int)<(A.length:Int):=by omega
     have u2:(k:Int)<(B.length:Int):=by omega
     have u3:(0:Int)≤(k:Int):=by omega
     by_cases hxy:x=y
     ·have t2:=Pl.zu3 hxy;have HR2:Hid (R=Pl.za4 (A.drop (k+1)) (B.drop (k+1))):=HR.out.trans (HT.out k x y hx hy hxy);clear hx hy HR hxy;go_wp2
      go_quiet (fail)
      go_wp2
      go_roundw
      case rel=>exact ⟨k+1,by omega,by go_num,Mem.below_drewN hbel _,HR2⟩
      case measure=>simp [intOf];omega
     ·have t2:=Pl.zl0 hxy;have E:Hid (R=Op.bytesLess x.toList y.toList):=HR.out.trans (HF.out k x y hx hy hxy);clear hx hy HR hxy;go_wp2
      go_quiet (fail)
      go_wp2
      go_quiet (fail)
      go_wp2
      go_ret
      exact ⟨za2 E.out.symm,Mem.below_drewN (Mem.below_drewN hbel _) _⟩
    ·obtain rfl:k=A.length:=by omega
     have E:Hid (R=decide (A.length<B.length)):=HR.out.trans (HE.out _ (by omega));clear HR;go_wp2
     go_ret
     exact ⟨za2 (by rw [E.out]),hbel⟩
  ·have t0:¬ (A.length:Int)≤(B.length:Int):=by omega
   have t9:(B.length:Int)<(A.length:Int):=by omega
   go_enter Tryz.func161,Tryz.ntmps161
   go_wp2
   go_loopw [11] (fun i wr=>∃k:Nat,k≤B.length∧i= .int .i64 (k:Int)∧Below w.heap.size w wr∧Hid (R=Pl.za4 (A.drop k) (B.drop k))) (fun i _=>B.length - (intOf i).toNat)
   case atStart=>exact ⟨0,Nat.zero_le _,rfl,Below.refl _ _,HS⟩
   case round=>
    obtain ⟨k,hk,rfl,hbel,HR⟩:=hrel;by_cases hlt:k<B.length
    ·obtain ⟨y,hy⟩:∃y,B[k]? =some y:=⟨_,List.getElem?_eq_getElem (by omega)⟩;obtain ⟨x,hx⟩:∃x,A[k]? =some x:=⟨_,List.getElem?_eq_getElem (by omega)⟩;have hc1:wr.cell? ⟨b,o+k,none⟩=some (.string y):=(hbel.cell (p:=⟨b,o+k,none⟩) hb).trans (HB.out k y hy);have hc2:wr.cell? ⟨b',o'+k,none⟩=some (.string x):=(hbel.cell (p:=⟨b',o'+k,none⟩) hb').trans (HA.out k x hx);have u1:(k:Int)<(A.length:Int):=by omega
     have u2:(k:Int)<(B.length:Int):=by omega
     have u3:(0:Int)≤(k:Int):=by omega
     by_cases hxy:x=y
     ·have t2:=Pl.zu3 hxy;have HR2:Hid (R=Pl.za4 (A.drop (k+1)) (B.drop (k+1))):=HR.out.trans (HT.out k x y hx hy hxy);clear hx hy HR hxy;go_wp2
      go_quiet (fail)
      go_wp2
      go_roundw
      case rel=>exact ⟨k+1,by omega,by go_num,Mem.below_drewN hbel _,HR2⟩
      case measure=>simp [intOf];omega
     ·have t2:=Pl.zl0 hxy;have E:Hid (R=Op.bytesLess x.toList y.toList):=HR.out.trans (HF.out k x y hx hy hxy);clear hx hy HR hxy;go_wp2
      go_quiet (fail)
      go_wp2
      go_quiet (fail)
      go_wp2
      go_ret
      exact ⟨za2 E.out.symm,Mem.below_drewN (Mem.below_drewN hbel _) _⟩
    ·obtain rfl:k=B.length:=by omega
     have E:Hid (R=decide (A.length<B.length)):=HR.out.trans (HE.out _ (by omega));clear HR;go_wp2
     go_ret
     exact ⟨za2 (by rw [E.out]),hbel⟩

set_option maxRecDepth 100000 in
theorem ye1 (p t:ByteArray) (w:World) (hp:p.size≤1048576) (ht:t.size≤1048576):
  Calls Tryz.prog 127 #[.string p, .string t] w fun e w'=>e= .returned (.bool (Pl.za0 p&&Pl.za0 t&&Pl.za4 (Pl.za8 p) (Pl.za8 t)))∧Below w.heap.size w w':=by
 have hn:=hide (fun W=>zv2.both_any p t W hp ht);have hA:=hide (Pl.zg p);have hB:=hide (Pl.zg t);generalize (Pl.za0 p&&Pl.za0 t)=r at hn ⊢;generalize Pl.za8 p=A at hn hA ⊢;generalize Pl.za8 t=B at hn hB ⊢;cases r
 ·go_enter Tryz.func127,Tryz.ntmps127
  go_wp2_with fail
  refine (za hn _).mono ?_;rintro e w1 ⟨v1,v2,m,rfl, -, -, -, -,hb⟩;go_wp2
  go_ret
  exact ⟨rfl,hb⟩
 ·go_enter Tryz.func127,Tryz.ntmps127
  go_wp2_with fail
  refine (za hn _).mono ?_;rintro e w1 ⟨v1,v2,m,rfl,h1,h2,h3,h4,hb⟩;have i1:=hide (Mem.zg7 h2);have i2:=hide (Mem.zg7 h4);clear h2 h4 h3 hn;go_wp2_with fail
  refine (ahead_any _ _ A B _ (by have :=(za hA).2;omega) (by have :=(za hB).2;omega) (za i1) (za i2)).mono ?_;rintro e w2 ⟨rfl,hb2⟩;have hb3:=hb.trans (hb2.mono hb.size);generalize hr:Pl.za4 A B=r2;have HR:=hide hr;clear hr hb hb2;go_wp2
  go_ret
  exact ⟨by rw [za HR];rfl,hb3⟩
end WLess
end
end Go.Proofs.YtkighhofjmginaaGreatDoor
