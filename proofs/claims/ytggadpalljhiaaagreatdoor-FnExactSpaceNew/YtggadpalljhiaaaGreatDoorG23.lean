/- Several texts of one claim in one file: LaySort, WOrder. -/
import Derived.Shelf.SlSortCmp.NoneTotal
import Derived.Test.YtggadpalljhiaaaGreatDoorProg
import Derived.Test.YtggadpalljhiaaaGreatDoorG02
import Derived.Test.YtggadpalljhiaaaGreatDoorG04
import Derived.Test.YtggadpalljhiaaaGreatDoorG15
import Derived.Test.YtggadpalljhiaaaGreatDoorG03
import Derived.Test.YtggadpalljhiaaaGreatDoorDrawn
import Derived.Lib.QuietBelow
namespace Go.Proofs.YtggadpalljhiaaaGreatDoor
section
open Go.Shelf
namespace zq4
def ren:Go.Shelf.Ren:=⟨fun |6=>91|15=>60|14=>116|28=>84|29=>85|20=>132|21=>133|22=>134|23=>135|24=>136|25=>137|26=>138|27=>139|46=>147|47=>102|48=>103|49=>148|50=>149|57=>150|n=>n,fun |22=>52|24=>106|25=>171|3=>3|39=>122|0=>0|53=>160|55=>162|4=>4|46=>153|45=>152|50=>157|5=>5|9=>9|66=>177|70=>181|76=>197|77=>198|n=>n,fun n=>n⟩
theorem lay:SlLaysF0.n6 Tryz.prog ren where
 mixed:=by kernel_rfl
 f6:=⟨ "slices.SortFunc[[]loop.example/g00449/impl.Node,loop.example/g00449/impl.Node]",by decide,Tryz.func91.trans (congrArg some (by kernel_rfl))⟩
 f14:=⟨ "slices.pdqsortCmpFunc[loop.example/g00449/impl.Node]",by decide,Tryz.func116.trans (congrArg some (by kernel_rfl))⟩
 f15:=Tryz.func60.trans (congrArg some (by kernel_rfl))
 f20:=⟨ "slices.insertionSortCmpFunc[loop.example/g00449/impl.Node]",by decide,Tryz.func132.trans (congrArg some (by kernel_rfl))⟩
 f21:=⟨ "slices.heapSortCmpFunc[loop.example/g00449/impl.Node]",by decide,Tryz.func133.trans (congrArg some (by kernel_rfl))⟩
 f22:=⟨ "slices.breakPatternsCmpFunc[loop.example/g00449/impl.Node]",by decide,Tryz.func134.trans (congrArg some (by kernel_rfl))⟩
 f23:=⟨ "slices.choosePivotCmpFunc[loop.example/g00449/impl.Node]",by decide,Tryz.func135.trans (congrArg some (by kernel_rfl))⟩
 f24:=⟨ "slices.reverseRangeCmpFunc[loop.example/g00449/impl.Node]",by decide,Tryz.func136.trans (congrArg some (by kernel_rfl))⟩
 f25:=⟨ "slices.partialInsertionSortCmpFunc[loop.example/g00449/impl.Node]",by decide,Tryz.func137.trans (congrArg some (by kernel_rfl))⟩
 f26:=⟨ "slices.partitionEqualCmpFunc[loop.example/g00449/impl.Node]",by decide,Tryz.func138.trans (congrArg some (by kernel_rfl))⟩
 f27:=⟨ "slices.partitionCmpFunc[loop.example/g00449/impl.Node]",by decide,Tryz.func139.trans (congrArg some (by kernel_rfl))⟩
 f28:=Tryz.func84.trans (congrArg some (by kernel_rfl))
 f29:=Tryz.func85.trans (congrArg some (by kernel_rfl))
 f46:=⟨ "slices.siftDownCmpFunc[loop.example/g00449/impl.Node]",by decide,Tryz.func147.trans (congrArg some (by kernel_rfl))⟩
 f47:=Tryz.func102.trans (congrArg some (by kernel_rfl))
 f48:=Tryz.func103.trans (congrArg some (by kernel_rfl))
 f49:=⟨ "slices.medianAdjacentCmpFunc[loop.example/g00449/impl.Node]",by decide,Tryz.func148.trans (congrArg some (by kernel_rfl))⟩
 f50:=⟨ "slices.medianCmpFunc[loop.example/g00449/impl.Node]",by decide,Tryz.func149.trans (congrArg some (by kernel_rfl))⟩
 f57:=⟨ "slices.order2CmpFunc[loop.example/g00449/impl.Node]",by decide,Tryz.func150.trans (congrArg some (by kernel_rfl))⟩
 t0:=Tryz.underlying0
 a0:=Tryz.isAgg0
 z0:=Tryz.sizeOf0
 v0:=Tryz.zeroValue0
 t3:=Tryz.underlying3
 a3:=Tryz.isAgg3
 z3:=Tryz.sizeOf3
 v3:=Tryz.zeroValue3
 t4:=Tryz.underlying4
 a4:=Tryz.isAgg4
 z4:=Tryz.sizeOf4
 v4:=Tryz.zeroValue4
 t5:=Tryz.underlying5
 a5:=Tryz.isAgg5
 z5:=Tryz.sizeOf5
 v5:=Tryz.zeroValue5
 t9:=Tryz.underlying9
 a9:=Tryz.isAgg9
 z9:=Tryz.sizeOf9
 v9:=Tryz.zeroValue9
 t22:=Tryz.underlying52
 a22:=Tryz.isAgg52
 z22:=Tryz.sizeOf52
 v22:=Tryz.zeroValue52
 t25:=Tryz.underlying171
 a25:=Tryz.isAgg171
 z25:=Tryz.sizeOf171
 v25:=Tryz.zeroValue171
 t39:=Tryz.underlying122
 a39:=Tryz.isAgg122
 z39:=Tryz.sizeOf122
 v39:=Tryz.zeroValue122
 t45:=Tryz.underlying152
 a45:=Tryz.isAgg152
 z45:=Tryz.sizeOf152
 v45:=Tryz.zeroValue152
 t46:=Tryz.underlying153
 a46:=Tryz.isAgg153
 z46:=Tryz.sizeOf153
 v46:=Tryz.zeroValue153
 t50:=Tryz.underlying157
 a50:=Tryz.isAgg157
 z50:=Tryz.sizeOf157
 v50:=Tryz.zeroValue157
 t53:=Tryz.underlying160
 a53:=Tryz.isAgg160
 z53:=Tryz.sizeOf160
 v53:=Tryz.zeroValue160
 t55:=Tryz.underlying162
 a55:=Tryz.isAgg162
 z55:=Tryz.sizeOf162
 v55:=Tryz.zeroValue162
 t66:=Tryz.underlying177
 a66:=Tryz.isAgg177
 z66:=Tryz.sizeOf177
 v66:=Tryz.zeroValue177
 t70:=Tryz.underlying181
 a70:=Tryz.isAgg181
 z70:=Tryz.sizeOf181
 v70:=Tryz.zeroValue181
 t76:=Tryz.underlying197
 a76:=Tryz.isAgg197
 z76:=Tryz.sizeOf197
 v76:=Tryz.zeroValue197
 t77:=Tryz.underlying198
 a77:=Tryz.isAgg198
 z77:=Tryz.sizeOf198
 v77:=Tryz.zeroValue198
theorem agg:∀w,(isAgg (ren.t 24)).run Tryz.prog w= .ok true w:=Tryz.isAgg106
theorem size:∀w,(Go.sizeOf (ren.t 24)).run Tryz.prog w= .ok 5 w:=Tryz.sizeOf106
end zq4
end
section
open Go.RowKit Go.Sort
namespace WOrder
theorem grow_of {w w':World} (h:Go.RowKit.Below w.heap.size w w') (hd:w.drawn≤w'.drawn):∃q os',w'=grow (w.drewN q) os':=by
 obtain ⟨⟨d,os⟩,e⟩:=regrown_of_below h;have e2:w'.drawn=d:=by rw [e];rfl
 refine ⟨d - w.drawn,os,?_⟩;rw [e];show grow (redrawn w d) os=grow (w.drewN (d - w.drawn)) os;unfold redrawn World.drewN;rw [show w.drawn+(d - w.drawn)=d by omega]
abbrev Rn:={n:Pl.Nd // Pl.za2 n.path=true}
def cf (x y:Rn):Int:=if Pl.ltP x.1.path y.1.path then -1 else if Pl.ltP y.1.path x.1.path then 1 else 0
theorem lt_cf (x y:Rn):ltOf cf x y=Pl.ltP x.1.path y.1.path:=by
 unfold ltOf cf;cases Pl.ltP x.1.path y.1.path
 ·cases Pl.ltP y.1.path x.1.path <;> rfl
 ·rfl
theorem lt_anti {x y:Rn} (h:x.1.path≠y.1.path):Pl.ltP x.1.path y.1.path= !Pl.ltP y.1.path x.1.path:=Pl.two_less x.2 y.2 h
theorem lt_irr (x:Rn):Pl.ltP x.1.path x.1.path=false:=by rw [Pl.ze x.2 x.2];exact Pl.zj1 _
theorem lt_tr {x y z:Rn} (h1:Pl.ltP x.1.path y.1.path=true) (h2:Pl.ltP y.1.path z.1.path=true):Pl.ltP x.1.path z.1.path=true:=by
 rw [Pl.ze x.2 y.2] at h1;rw [Pl.ze y.2 z.2] at h2;rw [Pl.ze x.2 z.2];exact Pl.zg2 _ _ _ h1 h2
theorem swo:SWO (ltOf cf) where
 irrefl x:=by rw [lt_cf];exact lt_irr x
 trans x y z h1 h2:=by rw [lt_cf] at *;exact lt_tr h1 h2
 ntrans x y z h1 h2:=by
  rw [lt_cf] at *;cases h:Pl.ltP x.1.path z.1.path
  ·rfl
  ·exfalso;by_cases e:x.1.path=y.1.path
   ·rw [←e,h] at h2;cases h2
   ·have a:=lt_anti e;rw [h1] at a
    have b:Pl.ltP y.1.path x.1.path=true:=by
     cases hb:Pl.ltP y.1.path x.1.path
     ·rw [hb] at a;cases a
     ·rfl
    rw [lt_tr b h] at h2;cases h2
def cfP (p q:ByteArray):Int:=if Pl.ltP p q then -1 else if Pl.ltP q p then 1 else 0
set_option maxRecDepth 100000 in
theorem order_path (p q:ByteArray) (hp:Pl.za2 p=true) (hq:Pl.za2 q=true) (w:World):
  Calls Tryz.prog 37 #[.string p, .string q] w fun e w'=>e= .returned (.int .i64 (cfP p q))∧Go.RowKit.Below w.heap.size w w':=by
 have h1:=hide (fun W=>WLess.zw7 p q W (by have :=Pl.zh9 hp;omega) (by have :=Pl.zh9 hq;omega));have h2:=hide (fun W=>WLess.zw7 q p W (by have :=Pl.zh9 hq;omega) (by have :=Pl.zh9 hp;omega))
 change Hid (∀W,Calls Tryz.prog _ _ W fun e w'=>e= .returned (.bool (Pl.ltP p q))∧_) at h1
 change Hid (∀W,Calls Tryz.prog _ _ W fun e w'=>e= .returned (.bool (Pl.ltP q p))∧_) at h2
 unfold cfP;generalize Pl.ltP p q=r1 at h1 ⊢;generalize Pl.ltP q p=r2 at h2 ⊢;clear hp hq;cases r1
 ·go_enter Tryz.func37,Tryz.ntmps37
  go_wp2_with fail
  refine (za h1 _).mono ?_;rintro e w1 ⟨rfl,b1⟩;clear h1;go_wp2_with fail
  refine (za h2 _).mono ?_;rintro e w3 ⟨rfl,b3⟩;have b4:=b1.trans (b3.mono b1.size);clear b1 b3 h2;cases r2
  ·go_wp2
   go_ret
   exact ⟨rfl,b4⟩
  ·go_wp2
   go_ret
   exact ⟨rfl,b4⟩
 ·clear h2;go_enter Tryz.func37,Tryz.ntmps37
  go_wp2_with fail
  refine (za h1 _).mono ?_;rintro e w1 ⟨rfl,b1⟩;clear h1;go_wp2
  go_ret
  exact ⟨rfl,b1⟩
set_option maxRecDepth 100000 in
theorem order_any (x y:Rn) (w:World):
  Calls Tryz.prog 92 #[.agg x.1.cs.toArray, .agg y.1.cs.toArray] w fun e w'=>e= .returned (.int .i64 (cf x y))∧Go.RowKit.Below w.heap.size w w':=by
 have h1:=hide (fun W=>order_path x.1.path y.1.path x.2 y.2 W);have e1:cf x y=cfP x.1.path y.1.path:=rfl;rw [e1];generalize cfP x.1.path y.1.path=r at h1 ⊢;obtain ⟨⟨p,k,d,t,m⟩,hx⟩:=x;obtain ⟨⟨p',k',d',t',m'⟩,hy⟩:=y;simp only [Pl.Nd.cs] at h1 ⊢;have b0:Go.RowKit.Below w.heap.size w ((w.alloc (.cells #[.string p, .int .i64 k, .string d, .int .i64 t, .int .i64 m] 106)).alloc (.cells #[.string p', .int .i64 k', .string d', .int .i64 t', .int .i64 m'] 106)):=((Below.refl _ _).alloc (Nat.le_refl _) _).alloc (by simp) _;clear hx hy e1;go_enter Tryz.func92,Tryz.ntmps92
 go_wp2_with fail
 refine (za h1 _).mono ?_;rintro e w1 ⟨rfl,b1⟩;have b2:=b0.trans (b1.mono b0.size);clear b0 b1 h1;go_wp2
 go_ret
 exact ⟨rfl,b2⟩
theorem cmp_lays (blk off size:Nat) (w:World) [Inhabited Rn]:CmpLays Tryz.prog 92 #[] (fun x:Rn=>x.1.cs) 5 cf blk off size w:=fun m os dk _ x y=>by
 have h:=Drw.calls_up (fun e w' (h:e= .returned (.int .i64 (cf x y))∧_)=>⟨_,h.1⟩) (order_any x y (sortWorldK (fun x:Rn=>x.1.cs) 5 w blk off m dk os));exact h.mono fun e w' ⟨⟨he,hb⟩,hd⟩=>⟨he,grow_of hb hd⟩
theorem heap_sorted {α:Type} [Inhabited α] (enc:α→List Value) (w:World) (g n:Nat) (d:Array α) (os:Array Obj) (cur:Array Value) (T:TypeId) (hg:w.heap[g]? =some (.cells cur T (0,0))):
  (sortWorldK enc 5 w g 0 n d os).heap[g]? =some (.cells (putCells id 0 (flatK enc 5 d) cur) T (0,0)):=by
 have hlt:g<w.heap.size:=(Array.getElem?_eq_some_iff.1 hg).1;unfold sortWorldK grow putRowK putRow mapBlock;simp only [Array.getElem?_append,Array.size_modify];rw [if_pos (show g<(Sort.ahead w n).heap.size from hlt),Array.getElem?_modify,if_pos rfl];show Option.map _ (w.heap[g]?)=_;rw [hg];rfl
theorem grown_sorted {α:Type} [Inhabited α] (enc:α→List Value) (w:World) (g n:Nat) (d:Array α) (os:Array Obj):w.grownBy (sortWorldK enc 5 w g 0 n d os) (some g):=by
 refine ⟨rfl,rfl,rfl,?_,fun j hj hne=>?_⟩
 ·unfold sortWorldK grow putRowK putRow mapBlock;simp only [Array.size_append,Array.size_modify];exact Nat.le_add_right _ _
 ·have h:j≠g:=fun e=>hne (by rw [e]);unfold sortWorldK grow putRowK putRow mapBlock;simp only [Array.getElem?_append,Array.size_modify];rw [if_pos (show j<(Sort.ahead w n).heap.size from hj),Array.getElem?_modify,if_neg (fun e=>h e.symm)];rfl
theorem flat_get (d:Array Rn) [Inhabited Rn] (t:Nat) (h:t<d.size*5):(flatK (fun x:Rn=>x.1.cs) 5 d)[t]! =(Pl.zd1 (d.toList.map (·.1)))[t]! :=by
 rw [get_flatK _ _ _ _ h];have hd:t / 5<d.size:=by omega
 have e:(d.toList.map (·.1))[t / 5]? =some (d[t / 5]!).1:=by
  rw [List.getElem?_map,Array.getElem?_toList,Array.getElem?_eq_getElem hd,getElem!_pos d _ hd];rfl
 have h2:=Pl.zw1 _ _ _ e (t % 5) (by omega);rw [show t / 5*5+t % 5=t by omega] at h2;rw [List.getElem!_eq_getElem?_getD,List.getElem!_eq_getElem?_getD,h2]
theorem sort_any (g cap B:Nat) (T:List Pl.Nd) (w:World) (hp:∀t∈T,Pl.za2 t.path=true) (hl:T.length≤1048576) (hown:Mem.ownN w B (.slice (some ⟨g,0,none⟩) T.length cap) T):
  Calls Tryz.prog 91 #[.slice (some ⟨g,0,none⟩) T.length cap, .func (.func 92) #[] #[]] w fun e w'=>e= .returned (.tuple #[])∧
   ∃S:List Pl.Nd,S.Perm T∧S.Pairwise (fun a b=>Pl.ltP b.path a.path=false)∧Mem.ownN w' B (.slice (some ⟨g,0,none⟩) T.length cap) S∧w.grownBy w' (some g):=by
 by_cases h0:T=[]
 ·subst h0;refine Calls.mono (AnyF.slices_SortFunc_none (P:=Tryz.prog) zq4.lay (some ⟨g,0,none⟩) cap (.func (.func 92) #[] #[]) w) ?_;rintro e w' ⟨he,rfl⟩;exact ⟨he,[],List.Perm.refl _,List.Pairwise.nil,hown,⟨rfl,rfl,rfl,Nat.le_refl _,fun _ _ _=>rfl⟩⟩
 obtain ⟨t0,ht0⟩:=List.exists_mem_of_ne_nil T h0
 letI:Inhabited Rn:=⟨⟨t0,hp t0 ht0⟩⟩
 rcases hown.2 with ⟨e, -⟩|⟨g',cap',cur,e,hb,hg,hc,hm,hsz,ht⟩
 ·cases e
 injection e with e1 e2 e3
 cases e1
 subst e3
 let d:Array Rn:=(T.attach.map (fun t=>(⟨t.1,hp t.1 t.2⟩:Rn))).toArray
 have hd:d.toList.map (·.1)=T:=by simp [d]
 have hds:d.size=T.length:=by simp [d]
 have hcur:T.length*5≤cur.size:=by rw [hsz];exact Nat.mul_le_mul_right _ hc
 have hH:HoldsK (fun x:Rn=>x.1.cs) 5 w g 0 d:=by
  intro j hj;rw [size_flatK,hds] at hj;refine ⟨?_,Mem.zb1 hg⟩;rw [cell_of_row w g _ cur _ (0,0) hg,Nat.zero_add,flat_get d j (by omega),hd,id_eq];have h1:(Pl.zd1 T)[j]? =cur[j]?:=by rw [←ht,List.getElem?_take_of_lt (by omega),Array.getElem?_toList]
  rw [←h1,List.getElem!_eq_getElem?_getD,List.getElem?_eq_getElem (by rw [Pl.zl];omega)];rfl
 have hcon:=AnyQ.slices_SortFunc (P:=Tryz.prog) zq4.lay 5 zq4.agg zq4.size (fun x:Rn=>x.1.cs) (fun _=>rfl) (fun x=>Mem.cs_one x.1) cf swo 92 #[] g 0 cap d w (enters_of Tryz.func92 (by kernel_rfl) rfl) (cmp_lays g 0 d.size w) hH (Array.getElem?_eq_some_iff.1 hg).1 (by omega);rw [hds] at hcon;refine Calls.mono hcon ?_;rintro e w' ⟨he,d',n,os,hperm,hsort,rfl⟩;have hs':d'.size=T.length:=hperm.1.trans hds;refine ⟨he,d'.toList.map (·.1),?_,?_,?_,grown_sorted _ w g n d' os⟩
 ·have h:=hperm.2.2;rw [←hds] at h;have e1:(d'.extract 0 d.size).toList=d'.toList:=by simp [hperm.1.symm]
  have e2:(d.extract 0 d.size).toList=d.toList:=by simp
  rw [e1,e2] at h;have :=h.map (·.1)
  rwa [hd] at this
 ·rw [List.pairwise_map,List.pairwise_iff_getElem];intro i j hi hj hij;have h:=hsort i j (Nat.zero_le _) hij (by simp at hj;omega);rw [lt_cf,getElem!_pos d' i (by simpa using hi),getElem!_pos d' j (by simpa using hj)] at h
  simpa using h
 ·have hlen:(d'.toList.map (·.1)).length=T.length:=by simp [hs']
  refine ⟨?_, .inr ⟨g,cap,_,?_,hb,heap_sorted _ w g n d' os cur _ hg,?_,hm,?_,?_⟩⟩
  ·rw [Pl.zl]
  ·rw [hlen]
  ·rw [hlen];exact hc
  ·simp only [putCells,Array.size_mapIdx];exact hsz
  ·rw [hlen]
   apply List.ext_getElem?
   intro j;by_cases hj:j<T.length*5
   ·rw [List.getElem?_take_of_lt hj,Array.getElem?_toList];have h1:(flatK (fun x:Rn=>x.1.cs) 5 d')[j]! =(Pl.zd1 (d'.toList.map (·.1)))[j]! :=flat_get d' j (by omega);rw [putCells,Array.getElem?_mapIdx,Array.getElem?_eq_getElem (by omega)];simp only [Option.map_some,size_flatK,Nat.zero_le,true_and,Nat.zero_add,Nat.sub_zero,id_eq];rw [if_pos (by omega),h1,List.getElem!_eq_getElem?_getD,List.getElem?_eq_getElem (by rw [Pl.zl,hlen];omega)];rfl
   ·rw [List.getElem?_eq_none (by rw [List.length_take];omega),List.getElem?_eq_none (by rw [Pl.zl,hlen];omega)]
end WOrder
end
end Go.Proofs.YtggadpalljhiaaaGreatDoor
