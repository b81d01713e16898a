/- Several texts of one claim in one file: LayKeys, WKeys, Drawn, LaySort, WOrder. -/
import Derived.Shelf.SlIterI.Nil
import Derived.Shelf.SortM.Plain
import Derived.Shelf.SortM.SortNone
import Derived.Test.YtkighhofjmginaaGreatDoorG06
import Derived.Shelf.SlSortCmp.NoneTotal
import Derived.Test.YtkighhofjmginaaGreatDoorG01
import Derived.Lib.QuietBelow
namespace Go.Proofs.YtkighhofjmginaaGreatDoor
section
open Go.Shelf
namespace zr0
def keysR:Go.Shelf.Ren:=⟨fun |7=>74|10=>117|n=>n,fun |0=>0|3=>113|4=>4|23=>71|26=>2|27=>148|28=>149|33=>189|n=>n,fun n=>n⟩
set_option maxRecDepth 100000 in
theorem keysL:SlLaysZI.n7 Tryz.prog keysR where
 mixed:=by kernel_rfl
 f7:=⟨ "maps.Keys[map[int64]loop.example/g00449/impl.nest[loop.example/g00449/impl.treeItem],int64,loop.example/g00449/impl.nest[loop.example/g00449/impl.treeItem]]",by decide,Tryz.func74.trans (congrArg some (by kernel_rfl))⟩
 f10:=⟨ "maps.Keys[map[int64]loop.example/g00449/impl.nest[loop.example/g00449/impl.treeItem],int64,loop.example/g00449/impl.nest[loop.example/g00449/impl.treeItem]]$1",by decide,Tryz.func117.trans (congrArg some (by kernel_rfl))⟩
 t0:=Tryz.underlying0
 a0:=Tryz.isAgg0
 z0:=Tryz.sizeOf0
 v0:=Tryz.zeroValue0
 t4:=Tryz.underlying4
 a4:=Tryz.isAgg4
 z4:=Tryz.sizeOf4
 v4:=Tryz.zeroValue4
 t23:=Tryz.underlying71
 a23:=Tryz.isAgg71
 z23:=Tryz.sizeOf71
 v23:=Tryz.zeroValue71
 t26:=Tryz.underlying2
 a26:=Tryz.isAgg2
 z26:=Tryz.sizeOf2
 v26:=Tryz.zeroValue2
 t27:=Tryz.underlying148
 a27:=Tryz.isAgg148
 z27:=Tryz.sizeOf148
 v27:=Tryz.zeroValue148
 t28:=Tryz.underlying149
 a28:=Tryz.isAgg149
 z28:=Tryz.sizeOf149
 v28:=Tryz.zeroValue149
 t33:=Tryz.underlying189
 a33:=Tryz.isAgg189
 z33:=Tryz.sizeOf189
 v33:=Tryz.zeroValue189
def sortedR:Go.Shelf.Ren:=⟨fun |6=>73|8=>115|9=>116|11=>141|n=>n,fun |0=>0|24=>146|26=>2|28=>149|33=>189|n=>n,fun n=>n⟩
set_option maxRecDepth 100000 in
theorem sortedL:SlLaysZI.n6 Tryz.prog sortedR where
 mixed:=by kernel_rfl
 f6:=⟨ "slices.Sorted[int64]",by decide,Tryz.func73.trans (congrArg some (by kernel_rfl))⟩
 f8:=⟨ "slices.Collect[int64]",by decide,Tryz.func115.trans (congrArg some (by kernel_rfl))⟩
 f11:=⟨ "slices.AppendSeq[[]int64,int64]",by decide,Tryz.func141.trans (congrArg some (by kernel_rfl))⟩
 t0:=Tryz.underlying0
 a0:=Tryz.isAgg0
 z0:=Tryz.sizeOf0
 v0:=Tryz.zeroValue0
 t24:=Tryz.underlying146
 a24:=Tryz.isAgg146
 z24:=Tryz.sizeOf146
 v24:=Tryz.zeroValue146
 t26:=Tryz.underlying2
 a26:=Tryz.isAgg2
 z26:=Tryz.sizeOf2
 v26:=Tryz.zeroValue2
 t28:=Tryz.underlying149
 a28:=Tryz.isAgg149
 z28:=Tryz.sizeOf149
 v28:=Tryz.zeroValue149
 i26:=by kernel_rfl
def sortR:Go.Shelf.Ren:=⟨fun |5=>116|7=>142|8=>126|10=>172|11=>173|12=>174|13=>175|14=>176|15=>177|16=>178|17=>179|18=>180|19=>159|20=>160|30=>196|31=>188|32=>189|33=>197|34=>198|35=>199|40=>213|n=>n,fun |0=>0|3=>3|4=>4|5=>5|9=>9|22=>146|23=>146|25=>2|32=>200|35=>229|36=>230|41=>234|44=>237|46=>239|53=>266|57=>270|63=>282|64=>283|n=>n,fun n=>n⟩
set_option maxRecDepth 100000 in
theorem sortL:SlLaysM.n5 Tryz.prog sortR where
 mixed:=by kernel_rfl
 f5:=⟨ "slices.Sort[[]int64,int64]",by decide,Tryz.func116.trans (congrArg some (by kernel_rfl))⟩
 f7:=⟨ "slices.pdqsortOrdered[int64]",by decide,Tryz.func142.trans (congrArg some (by kernel_rfl))⟩
 f8:=Tryz.func126.trans (congrArg some (by kernel_rfl))
 f10:=⟨ "slices.insertionSortOrdered[int64]",by decide,Tryz.func172.trans (congrArg some (by kernel_rfl))⟩
 f11:=⟨ "slices.heapSortOrdered[int64]",by decide,Tryz.func173.trans (congrArg some (by kernel_rfl))⟩
 f12:=⟨ "slices.breakPatternsOrdered[int64]",by decide,Tryz.func174.trans (congrArg some (by kernel_rfl))⟩
 f13:=⟨ "slices.choosePivotOrdered[int64]",by decide,Tryz.func175.trans (congrArg some (by kernel_rfl))⟩
 f14:=⟨ "slices.reverseRangeOrdered[int64]",by decide,Tryz.func176.trans (congrArg some (by kernel_rfl))⟩
 f15:=⟨ "slices.partialInsertionSortOrdered[int64]",by decide,Tryz.func177.trans (congrArg some (by kernel_rfl))⟩
 f16:=⟨ "cmp.Less[int64]",by decide,Tryz.func178.trans (congrArg some (by kernel_rfl))⟩
 f17:=⟨ "slices.partitionEqualOrdered[int64]",by decide,Tryz.func179.trans (congrArg some (by kernel_rfl))⟩
 f18:=⟨ "slices.partitionOrdered[int64]",by decide,Tryz.func180.trans (congrArg some (by kernel_rfl))⟩
 f19:=Tryz.func159.trans (congrArg some (by kernel_rfl))
 f20:=Tryz.func160.trans (congrArg some (by kernel_rfl))
 f30:=⟨ "slices.siftDownOrdered[int64]",by decide,Tryz.func196.trans (congrArg some (by kernel_rfl))⟩
 f31:=Tryz.func188.trans (congrArg some (by kernel_rfl))
 f32:=Tryz.func189.trans (congrArg some (by kernel_rfl))
 f33:=⟨ "slices.medianAdjacentOrdered[int64]",by decide,Tryz.func197.trans (congrArg some (by kernel_rfl))⟩
 f34:=⟨ "slices.medianOrdered[int64]",by decide,Tryz.func198.trans (congrArg some (by kernel_rfl))⟩
 f35:=⟨ "cmp.isNaN[int64]",by decide,Tryz.func199.trans (congrArg some (by kernel_rfl))⟩
 f40:=⟨ "slices.order2Ordered[int64]",by decide,Tryz.func213.trans (congrArg some (by kernel_rfl))⟩
 t0:=Tryz.underlying0
 a0:=Tryz.isAgg0
 z0:=Tryz.sizeOf0
 v0:=Tryz.zeroValue0
 t3:=Tryz.underlying3
 a3:=Tryz.isAgg3
 z3:=Tryz.sizeOf3
 v3:=Tryz.zeroValue3
 t4:=Tryz.underlying4
 a4:=Tryz.isAgg4
 z4:=Tryz.sizeOf4
 v4:=Tryz.zeroValue4
 t5:=Tryz.underlying5
 a5:=Tryz.isAgg5
 z5:=Tryz.sizeOf5
 v5:=Tryz.zeroValue5
 t9:=Tryz.underlying9
 a9:=Tryz.isAgg9
 z9:=Tryz.sizeOf9
 v9:=Tryz.zeroValue9
 t22:=Tryz.underlying146
 a22:=Tryz.isAgg146
 z22:=Tryz.sizeOf146
 v22:=Tryz.zeroValue146
 t23:=Tryz.underlying146
 a23:=Tryz.isAgg146
 z23:=Tryz.sizeOf146
 v23:=Tryz.zeroValue146
 t25:=Tryz.underlying2
 a25:=Tryz.isAgg2
 z25:=Tryz.sizeOf2
 v25:=Tryz.zeroValue2
 t32:=Tryz.underlying200
 a32:=Tryz.isAgg200
 z32:=Tryz.sizeOf200
 v32:=Tryz.zeroValue200
 t35:=Tryz.underlying229
 a35:=Tryz.isAgg229
 z35:=Tryz.sizeOf229
 v35:=Tryz.zeroValue229
 t36:=Tryz.underlying230
 a36:=Tryz.isAgg230
 z36:=Tryz.sizeOf230
 v36:=Tryz.zeroValue230
 t41:=Tryz.underlying234
 a41:=Tryz.isAgg234
 z41:=Tryz.sizeOf234
 v41:=Tryz.zeroValue234
 t44:=Tryz.underlying237
 a44:=Tryz.isAgg237
 z44:=Tryz.sizeOf237
 v44:=Tryz.zeroValue237
 t46:=Tryz.underlying239
 a46:=Tryz.isAgg239
 z46:=Tryz.sizeOf239
 v46:=Tryz.zeroValue239
 t53:=Tryz.underlying266
 a53:=Tryz.isAgg266
 z53:=Tryz.sizeOf266
 v53:=Tryz.zeroValue266
 t57:=Tryz.underlying270
 a57:=Tryz.isAgg270
 z57:=Tryz.sizeOf270
 v57:=Tryz.zeroValue270
 t63:=Tryz.underlying282
 a63:=Tryz.isAgg282
 z63:=Tryz.sizeOf282
 v63:=Tryz.zeroValue282
 t64:=Tryz.underlying283
 a64:=Tryz.isAgg283
 z64:=Tryz.sizeOf283
 v64:=Tryz.zeroValue283
end zr0
end
section
open Go.RowKit Go.Maps Go.Sort Go.Shelf
namespace WKeys
theorem sorts (m:Nat):AnyZI.SortsIn Tryz.prog zr0.sortedR Fence.wide m:=
 ⟨fun blk off cap ss W hH hblk hsz=>callsIn_wide.2 (AnyM.slices_Sort_int zr0.sortL blk off cap ss W hH hblk hsz),
 fun p cap W=>callsIn_wide.2 (AnyM.slices_Sort_int_none zr0.sortL p cap W)⟩
theorem keys_any (mb:Option Nat) (W:World):Calls Tryz.prog 74 #[.map mb] W fun e w'=>e= .returned (.func (.func 117) #[] #[.pointer (some ⟨W.heap.size,0,none⟩)])∧w'=W.alloc (.cells #[.map mb] 71):=
 (callsIn_wide (n:=5)).1 (AnyZI.keys_in zr0.keysL Fence.wide 5 trivial rfl mb W)
theorem sorted_any (q n Bm:Nat) (D:DataW Value) (w:World) (hB:Bm<w.heap.size) (hm:w.cell? ⟨Bm,0,none⟩=some (.map (some q))) (hown:w.ownsMap Tryz.prog 2 MapI.elem q n D) (hmax:Maps.size D≤100):
  Calls Tryz.prog 73 #[.func (.func 117) #[] #[.pointer (some ⟨Bm,0,none⟩)]] w fun e w'=>∃ (v:Value) (ss:List Int),e= .returned v∧ss.Perm (intKeys D)∧
   w'.ownsRow w.heap.size 2 1 v ss.length ((ss.mergeSort (fun x y=>decide (x≤y))).map encZ)∧Below w.heap.size w w':=by
 have hseq:SeqGives Fence.wide 2 Tryz.prog 117 #[.pointer (some ⟨Bm,0,none⟩)] encZ (fun ss=>ss.Perm (intKeys D)) (Maps.size D) w:=
  AnyZI.keys_gives (ρ:=zr0.keysR) { zr0.keysL with } Fence.wide _ trivial rfl (by omega) Bm q n D _ hB hm hown
 have cS:=AnyZI.sorted_in zr0.sortedL Fence.wide 5 trivial trivial trivial trivial rfl (by omega) (sorts _) (enters_of Tryz.func116 (by kernel_rfl) rfl) 117 #[.pointer (some ⟨Bm,0,none⟩)] trivial (enters_of Tryz.func117 (by kernel_rfl) rfl) _ _ (by unfold maxLen;omega) (by omega) _ hseq;exact ((callsIn_wide (n:=5)).1 cS).mono fun e w' ⟨v,ss,h1,h2,h3,_,h5⟩=>⟨v,ss,h1,h2,h3,h5⟩
theorem size_le {w:World} {q n:Nat} {D:DataW Value} (h:w.ownsMap Tryz.prog 2 MapI.elem q n D):Maps.size D≤n:=by
 obtain ⟨es,clock,hb,F,hs,rfl⟩:=h;rw [Maps.size_eq,length_read];exact hs
theorem ids_perm {w:World} {q n:Nat} {E:List (Int × Value)} (h:w.ownsMap Tryz.prog 2 MapI.elem q n (MapI.mapOf E)) (hE:E.Pairwise (fun a b=>a.1≠b.1)):(E.map (·.1)).Perm (intKeys (MapI.mapOf E)):=by
 obtain ⟨es,hD,hpw,_⟩:=h.entries MapI.law;obtain ⟨es',hD',hko⟩:=h.keysOf;obtain rfl:es=es':=by rw [hD] at hD';simpa using hD'
 have hh:=fun x=>(MapI.look hE x (.int .i64 0)).1;rw [hD] at hh ⊢;refine perm_intKeys hpw (fun p hp=>?_) (by rw [List.Nodup,List.pairwise_map];exact hE) (fun x=>?_)
 ·obtain ⟨v,hv⟩:=hko p hp;obtain ⟨x,_,hx,_⟩:=Maps.keyOf_i64 Tryz.underlying2 hv;exact ⟨x,hx⟩
 ·have :=hh x;unfold MapI.key at this;rw [this,decide_eq_true_eq]
theorem ids_any (q n Bm:Nat) (E:List (Int × Value)) (w:World) (hn:n≤100) (hB:Bm<w.heap.size) (hm:w.cell? ⟨Bm,0,none⟩=some (.map (some q))) (hown:w.ownsMap Tryz.prog 2 MapI.elem q n (MapI.mapOf E)) (hp:(E.map (·.1)).Pairwise (· < ·)):
  Calls Tryz.prog 73 #[.func (.func 117) #[] #[.pointer (some ⟨Bm,0,none⟩)]] w fun e w'=>∃v:Value,e= .returned v∧
   w'.ownsRow w.heap.size 2 1 v E.length ((E.map (·.1)).map (Value.int .i64))∧Below w.heap.size w w':=by
 have hE:E.Pairwise (fun a b=>a.1≠b.1):=(List.pairwise_map.1 hp).imp (fun h=>by omega);have hpm:=ids_perm hown hE;refine (sorted_any q n Bm _ w hB hm hown (Nat.le_trans (size_le hown) hn)).mono fun e w' ⟨v,ss,h1,h2,h3,h4⟩=>⟨v,h1,?_,h4⟩;have e1:ss.Perm (E.map (·.1)):=h2.trans hpm.symm
 have e2:ss.mergeSort (fun x y=>decide (x≤y))=E.map (·.1):=by
  refine List.Perm.eq_of_pairwise (le:=fun a b:Int=>a<b∨a=b) (fun a b _ _ h1 h2=>by omega) ?_ (hp.imp (fun h=>Or.inl h)) ((List.mergeSort_perm ss _).trans e1);refine (List.pairwise_mergeSort (le:=fun x y:Int=>decide (x≤y)) (fun a b c h1 h2=>by simp only [decide_eq_true_eq] at *;omega) (fun a b=>by simp only [Bool.or_eq_true,decide_eq_true_eq];omega) ss).imp (fun h=>?_);simp only [decide_eq_true_eq] at h;omega
 have e3:ss.length=E.length:=by rw [e1.length_eq,List.length_map]
 rw [e2,e3] at h3;exact h3
end WKeys
end
section
namespace Drw
def wOf {α:Type}:Result α→World| .ok _ w=>w| .halt _ w=>w
theorem ask_le {α:Type} (a:Ask α):∀w:World,w.drawn≤(w.ask a).2.drawn:=by
 induction a with
 |done a=>intro w;exact Nat.le_refl _
 |ask what range k ih=>
  intro w;simp only [World.ask]
  split
  ·exact ih _ _
  ·exact Nat.le_trans (Nat.le_succ w.drawn) (ih _ { w with drawn:=w.drawn+1 })
theorem sys_le (w:World) (c:Sys):w.drawn≤(w.sys c).2.drawn:=by
 have h:=ask_le (Kernel.perform c w.os) w;unfold World.sys
 revert h
 generalize w.ask (Kernel.perform c w.os)=x;obtain ⟨⟨r,os⟩,w'⟩:=x;intro h
 split
 ·exact Nat.le_refl _
 ·rename_i he
  cases he
  exact h
theorem view_eq {p:Program} {w w':World} {at_:Addr} {u:TypeId} {k:Addr} {v:Value} {b:Bool} {l:List Addr} (h:w.viewStore p at_ u k v b= .ok (w',l)):w'.drawn=w.drawn:=by
 simp only [World.viewStore,bind,Except.bind,pure,Except.pure] at h
 repeat' first
  |(simp at h;done)
  |(simp only [Except.ok.injEq,Prod.mk.injEq] at h;obtain ⟨rfl,_⟩:=h;rfl)
  |split at h
theorem far_eq {p:Program} {w w':World} {a:Addr} {v:Value} {b:Bool} {l:List Addr} (h:w.farStore p a v b= .ok (w',l)):w'.drawn=w.drawn:=by
 unfold World.farStore at h
 split at h
 ·split at h
  ·rename_i r hr
   simp only [Except.ok.injEq] at h;subst h;exact view_eq hr
  ·simp at h
 ·simp at h
theorem run_le {α:Type} (p:Program) (s:Sem α):∀w:World,w.drawn≤(wOf (s.run p w)).drawn:=by
 induction s with
 |pure a=>intro w;exact Nat.le_refl _
 |load m a k ih=>
  intro w;simp only [Sem.run];split
  ·exact ih _ _
  ·split
   ·exact ih _ _
   ·exact Nat.le_refl _
 |store m a v k ih=>
  intro w
  have main:w.drawn≤(wOf (match w.cell? a with
   |some _=>if w.frozen? a then .halt (.unsupported (.unsafePointer "a write to bytes that a string shares")) w else k.run p (w.setCell a v)
   |none=>match w.farStore p a v (m== .atomic) with
    | .ok (w,_)=>k.run p w
    | .error h=> .halt h w)).drawn:=by
   split
   ·split
    ·exact Nat.le_refl _
    ·exact ih (w.setCell a v)
   ·split
    ·rename_i w' l he
     rw [←far_eq he];exact ih _
    ·exact Nat.le_refl _
  cases v <;> first |exact main|exact Nat.le_refl _
 |new o k ih=>intro w;simp only [Sem.run];exact ih _ { w with heap:=w.heap.push o }
 |shape r k ih=>intro w;simp only [Sem.run];exact ih _ _
 |freeze a n k ih=>
  intro w;simp only [Sem.run];have h:(w.freeze a n).drawn=w.drawn:=by unfold World.freeze;split <;> rfl
  rw [←h];exact ih _
 |frozen a k ih=>intro w;simp only [Sem.run];exact ih _ _
 |getObj r k ih=>
  intro w;simp only [Sem.run];split
  ·exact Nat.le_refl _
  ·exact ih _ _
  ·exact Nat.le_refl _
 |setObj r o k ih=>
  intro w;simp only [Sem.run];split
  ·exact Nat.le_refl _
  ·exact ih { w with heap:=w.heap.setIfInBounds r o }
  ·exact Nat.le_refl _
 |choose q k ih=>
  intro w;simp only [Sem.run];split
  ·exact ih _ _
  ·exact Nat.le_trans (Nat.le_succ _) (ih _ { w with drawn:=w.drawn+1 })
 |sys c k ih=>intro w;simp only [Sem.run];exact Nat.le_trans (sys_le w c) (ih _ _)
 |program k ih=>intro w;simp only [Sem.run];exact ih _ _
 |mark m k ih=>intro w;simp only [Sem.run];exact ih _
 |halt h=>intro w;exact Nat.le_refl _
theorem zd3 {α:Type} {p:Program} {s:Sem α} {w w':World} {a:α} (h:s.run p w= .ok a w'):w.drawn≤w'.drawn:=by
 have :=run_le p s w;rw [h] at this;exact this
theorem run_halt {α:Type} {p:Program} {s:Sem α} {w w':World} {a:Halt} (h:s.run p w= .halt a w'):w.drawn≤w'.drawn:=by
 have :=run_le p s w;rw [h] at this;exact this
theorem zr8 {α:Type} {p:Program} {s:Sem α} {w:World} {es es':Array Event} {r:Result α} (h:s.runT p w es=(r,es')):w.drawn≤(wOf r).drawn:=by
 have h1:=Sem.runT_fst p s w es;rw [h] at h1;have :=run_le p s w;rw [←h1] at this;exact this
theorem runT_ok1 {α:Type} {p:Program} {s:Sem α} {w w':World} {es:Array Event} {a:α} (h:(s.runT p w es).1= .ok a w'):w.drawn≤w'.drawn:=by rw [Sem.runT_fst] at h;exact zd3 h
theorem runT_halt1 {α:Type} {p:Program} {s:Sem α} {w w':World} {es:Array Event} {a:Halt} (h:(s.runT p w es).1= .halt a w'):w.drawn≤w'.drawn:=by rw [Sem.runT_fst] at h;exact run_halt h
def up (d:Nat):GStep→Prop
 | .go _ w _| .comm _ _ _ _ w _| .spawn _ _ w _| .count _ w _| .timer _ _ w _| .alone _ _ w _| .newcoro _ _ _ w _| .coroswitch _ _ _ w _| .collect _ w _| .watch _ w _=>d≤w.drawn
 | .ended _ _ _=>True
theorem zl (d:Nat) (es:Array Event) (s:GStep):up d (GStep.after es s)↔up d s:=by cases s <;> exact Iff.rfl
theorem zj9 {d d':Nat} (h:d≤d') {s:GStep} (hs:up d' s):up d s:=by
 cases s <;> first |exact Nat.le_trans h hs|trivial
theorem up_ite {d:Nat} {c:Prop} [Decidable c] {a b:GStep} (ha:up d a) (hb:up d b):up d (if c then a else b):=by split <;> assumption
theorem zv1 (fr:Frame) (m:String) (w:World):up w.drawn (endThrow fr m w):=Nat.le_refl _
theorem dieOf_up (fr:Frame) (l:List ByteArray) (m:String) (b:Bool) (w:World):up w.drawn (dieOf fr l m b w):=Nat.le_refl _
theorem yb9 (p:Program) (fr:Frame) (v:Value) (w:World):up w.drawn (endPrinting p fr v w):=by
 unfold endPrinting;simp only []
 split
 ·exact zv1 _ _ _
 ·trivial
theorem yh (p:Program) (fr:Frame) (cs:List Frame) (dy:Option Dying) (m:String) (w:World):up w.drawn (endFatal p fr cs dy m w):=by
 unfold endFatal;simp only []
 split
 ·rename_i h;exact zj9 (zd3 h) (dieOf_up _ _ _ _ _)
 ·trivial
 ·trivial
theorem endWith_up (w:World) (fd:Nat) (t:ByteArray) (o:Outcome) (d:Nat):up d (endWith w fd t o):=by
 unfold endWith;simp only []
 split
 ·split <;> trivial
 ·trivial
 ·trivial
theorem writeOn_up (p:Program) (fr:Frame) (dd:Dying) (f:Fatal) (w:World):up w.drawn (writeOn p fr dd f w):=by
 unfold writeOn;simp only []
 split
 ·trivial
 ·split
  ·rename_i h;exact zr8 h
  ·rename_i h;exact zr8 h
  ·trivial
  ·trivial
theorem zu6 (p:Program) (main:Bool) (fr:Frame) (cs:List Frame) (dy:Option Dying) (v:Value) (w:World):up w.drawn (doReturn p main fr cs dy v w):=by
 unfold doReturn
 repeat' first
  |exact Nat.le_refl _
  |trivial
  |split
theorem die_up (p:Program) (fr:Frame) (dd:Dying) (w:World):up w.drawn (die p fr dd w):=by
 unfold die
 split
 ·exact writeOn_up _ _ _ _ _
 split
 ·split
  ·exact Nat.le_refl _
  ·exact endWith_up _ _ _ _ _
 simp only []
 split
 ·exact Nat.le_refl _
 ·split
  ·rename_i h;exact zd3 h
  ·trivial
 ·generalize hx:(invoke (.fn (.method _) #[]) _).runT p w #[]=x;obtain ⟨r,es⟩:=x;have h2:=zr8 hx;rw [zl];clear hx
  dsimp only
  revert h2
  split <;> intro h2 <;> first |exact h2|trivial|exact zj9 h2 (yb9 _ _ _ _)
 ·trivial
theorem yj0 (p:Program) (fr:Frame) (cs:List Frame) (dy:Option Dying) (d:Deferred) (w:World):up w.drawn (callDeferred p fr cs dy d w):=by
 unfold callDeferred;refine up_ite trivial ?_
 ·simp only [];generalize hx:(invoke d.target d.args).runT p w #[]=x;obtain ⟨r,es⟩:=x;have h2:=zr8 hx;rw [zl];clear hx
  dsimp only
  revert h2
  split <;> intro h2 <;> first |exact h2|trivial|exact zj9 h2 (yh _ _ _ _ _ _)|exact zj9 h2 (zv1 _ _ _)|(split <;> first |exact h2|trivial)
theorem unwind_up (p:Program) (main:Bool) (fr:Frame) (cs:List Frame) (dy:Option Dying) (w:World):up w.drawn (unwind p main fr cs dy w):=by
 unfold unwind
 split
 ·simp only [];generalize hx:(Instr.takeDeferred _).runT p w #[]=x;obtain ⟨r,es⟩:=x;have h2:=zr8 hx;rw [zl];cases r <;> first |exact h2|trivial
 ·exact yj0 _ _ _ _ _ _
 ·split
  ·trivial
  ·split
   ·trivial
   ·split
    ·exact Nat.le_refl _
    ·split
     ·split
      ·exact Nat.le_refl _
      ·split
       ·rename_i h;exact zd3 h
       ·trivial
       ·trivial
     ·split
      ·exact yb9 _ _ _ _
      ·trivial
  ·split
   ·exact zu6 _ _ _ _ _ _ _
   ·simp only [];generalize hx:(results _ _).runT p w #[]=x;obtain ⟨r,es⟩:=x;have h2:=zr8 hx;rw [zl];cases r with
    |ok v w'=>exact zj9 h2 (zu6 _ _ _ _ _ _ _)
    |halt n w'=>cases n <;> trivial
theorem early_up (p:Program) (fr:Frame) (cs:List Frame) (dy:Option Dying) (g:Nat) (w:World):up w.drawn (early p fr cs dy g w):=by
 unfold early;simp only []
 repeat' first
  |exact Nat.le_refl _
  |trivial
  |exact zd3 (by assumption)
  |split
 all_goals (rename_i w' h1 x c e h2;exact (zd3 h1:w.drawn≤w'.drawn))
theorem apply_up (p:Program) (b:Bool) (fr:Frame) (cs:List Frame) (dy:Option Dying) (s:Sem Next) (w:World):up w.drawn (stepG.apply p b fr cs dy s w):=by
 have h0:∃r es,(if b then s.runT p w #[] else (s.run p w,#[]))=(r,es)∧w.drawn≤(wOf r).drawn:=by
  cases b
  ·exact ⟨_,_,rfl,run_le p s w⟩
  ·exact ⟨_,_,rfl,zr8 rfl⟩
 obtain ⟨r,es,h1,h2⟩:=h0;unfold stepG.apply
 dsimp only
 rw [h1];rw [zl];clear h1
 dsimp only
 revert h2
 split <;> intro h2 <;> first |exact h2|trivial|exact zj9 h2 (yh _ _ _ _ _ _)|exact zj9 h2 (zv1 _ _ _)|exact zj9 h2 (early_up _ _ _ _ _ _)|(split <;> first |exact h2|trivial|exact zj9 h2 (zv1 _ _ _)|(split <;> first |exact h2|trivial))
theorem oper_up (p:Program) (b:Bool) (fr:Frame) (cs:List Frame) (dy:Option Dying) (w:World):up w.drawn (stepG.oper p b fr cs dy w):=by
 unfold stepG.oper
 split
 ·trivial
 ·split <;> exact apply_up ..
theorem up_elim {d:Nat} {α:Type} (o:Option α) (a:GStep) (f:α→GStep) (ha:up d a) (hf:∀x,up d (f x)):up d (o.elim a f):=by
 cases o
 ·exact ha
 ·exact hf _
theorem leave_up (p:Program) (main:Bool) (fr:Frame) (cs:List Frame) (dy:Option Dying) (w:World) (l:Nat) (jump:Option Code) (why:Outcome):up w.drawn (match (Instr.endRound l jump).runT p w #[] with
  |(r,es)=>GStep.after (seen p fr.fn es) (match r with
   | .ok v w=>doReturn p main fr cs dy v w
   | .halt _ w=> .ended why w)):=by
 generalize hx:(Instr.endRound l jump).runT p w #[]=x;obtain ⟨r,es⟩:=x;have h2:=zr8 hx
 dsimp only
 rw [zl];cases r with
 |ok v w'=>exact zj9 h2 (zu6 _ _ _ _ _ _ _)
 |halt n w'=>trivial
set_option maxHeartbeats 2000000 in
theorem exec_up (p:Program) (main b:Bool) (fr:Frame) (cs:List Frame) (dy:Option Dying) (w:World):up w.drawn (stepG.exec p main b fr cs dy w):=by
 unfold stepG.exec
 dsimp only
 repeat' first
  |with_reducible exact apply_up ..
  |with_reducible exact oper_up ..
  |with_reducible exact leave_up ..
  |with_reducible refine up_elim _ _ _ ?_ (fun _=>?_)
  |split
 all_goals first
  |trivial
  |exact Nat.le_refl _
  |exact (zl _ _ _).2 (zj9 (runT_ok1 (by assumption)) (zu6 ..))
  |exact (zl _ _ _).2 (zj9 (runT_ok1 (by assumption)) (apply_up ..))
  |exact (zl _ _ _).2 (runT_ok1 (by assumption))
  |exact (zl _ _ _).2 (runT_halt1 (by assumption))
  |exact zd3 (by assumption)
theorem stepG_up (p:Program) (main:Bool) (g:Goroutine) (w:World) (b:Bool):up w.drawn (stepG p main g w b):=by
 obtain ⟨fr,callers,status,dying,offers⟩:=g;simp only [stepG]
 split
 ·exact die_up ..
 ·exact exec_up ..
 ·exact unwind_up ..
def nextD:Stepped→Nat| .next m=>m.world.drawn|_=>0
theorem yl8 (p:Program) (rest:Rest) (gs:Array Goroutine) (i:Nat) (g:Goroutine) (cases :Array CommCase) (blocking:Bool)
  (shape:CommShape) (w:World) (m':Machine) (h:(communicate p rest gs i g cases blocking shape w).1= .next m'):w.drawn≤m'.world.drawn:=by
 have hw:∀w',waitingAt rest cases w=some w'→w'.drawn=w.drawn:=fun w' hh=>by
  unfold waitingAt at hh
  repeat' first
   |(simp at hh;done)
   |(simp only [Option.some.injEq] at hh;subst hh;rfl)
   |split at hh
 unfold communicate at h;simp only [] at h
 repeat' first
  |(simp at h;done)
  |(simp only [Stepped.next.injEq] at h;subst h;exact Nat.le_refl _)
  |(simp only [Stepped.next.injEq] at h;subst h;exact zd3 (by assumption))
  |(simp only [Stepped.next.injEq] at h;subst h;exact Nat.le_of_eq (hw _ (by assumption)).symm)
  |split at h
 all_goals (
  have hd:_=m'.world.drawn:=congrArg nextD h
  dsimp only [nextD] at hd
  rw [←hd]
  first
   |exact zd3 (by assumption)
   |exact Nat.le_trans (zd3 (by assumption)) (run_halt (by assumption))
   |exact Nat.le_trans (zd3 (by assumption)) (zd3 (by assumption)))
theorem look_up (p:Program) (gs:Array Goroutine) (rest:Rest) (w:World) (m':Machine) (h:look p gs rest w= .next m'):w.drawn≤m'.world.drawn:=by
 unfold look at h;simp only [] at h
 repeat' first
  |(simp at h;done)
  |(simp only [Stepped.next.injEq] at h;subst h;rename_i h1;exact zd3 h1)
  |split at h
 all_goals (
  have hd:_=m'.world.drawn:=congrArg nextD h
  dsimp only [nextD] at hd
  rw [←hd]
  first
   |exact zd3 (by assumption)
   |exact Nat.le_trans (zd3 (by assumption)) (run_halt (by assumption))
   |exact Nat.le_trans (zd3 (by assumption)) (zd3 (by assumption)))
theorem serve_up (p:Program) (m m':Machine) (k:Nat) (h:serve p m k= .next m'):m.world.drawn≤m'.world.drawn:=by
 unfold serve at h;simp only [] at h
 repeat' first
  |(simp at h;done)
  |(simp only [Stepped.next.injEq] at h;subst h;exact Nat.le_refl _)
  |split at h
theorem endThrow_go {fr:Frame} {m:String} {w w':World} {g:Goroutine} {es:Array Event} (h:endThrow fr m w= .go g w' es):w'.drawn=w.drawn:=by
 unfold endThrow dieOf at h;simp only [] at h
 injection h with h1 h2 h3
 rw [h2]
theorem timerOp_up (m m':Machine) (op:TimerOp) (v:Value) (h:timerOp m op= .ok (v,m')):m'.world.drawn=m.world.drawn:=by
 have hr:∀ (m:Machine) k t a b,(retime m k t a b).2.world.drawn=m.world.drawn:=fun m k t a b=>by
  unfold retime drain;simp only []
  repeat' first |rfl |split
 have ho:∀a m',timerOp.opened m a=some m'→m'.world.drawn=m.world.drawn:=fun a m' hh=>by
  unfold timerOp.opened at hh
  repeat' first
   |(simp at hh;done)
   |(simp only [Option.some.injEq] at hh;subst hh;rfl)
   |split at hh
 unfold timerOp at h;cases op with
 |new t=>
  simp only [] at h
  repeat' first
   |(simp at h;done)
   |(simp only [Except.ok.injEq,Prod.mk.injEq] at h;obtain ⟨_,rfl⟩:=h;rfl)
   |split at h
 |stop a=>
  simp only [timerOp.named] at h
  split at h
  ·simp only [Except.ok.injEq] at h;have :=congrArg (fun x=>x.2.world.drawn) h
   dsimp only at this
   rw [←this];exact hr ..
  ·simp at h
 |reset a b c=>
  simp only [] at h
  split at h
  ·rename_i m2 h2
   simp only [timerOp.named] at h
   split at h
   ·simp only [Except.ok.injEq] at h;have :=congrArg (fun x=>x.2.world.drawn) h
    dsimp only at this
    rw [←this,hr,ho _ _ h2]
   ·simp at h
  ·simp at h
 |deadline a b c d=>
  simp only [Except.ok.injEq,Prod.mk.injEq] at h;obtain ⟨_,rfl⟩:=h;rfl
theorem runM_up (p:Program) (m m':Machine) (i:Nat) (b:Bool) (h:(runT p m i b).1= .next m'):m.world.drawn≤m'.world.drawn:=by
 simp only [runT] at h
 revert h
 generalize m.gs.swapAt! _ _=gg;have hs:=stepG_up p (i==0) gg.1 m.world b
 revert hs
 generalize stepG p _ gg.1 m.world b=s;intro hs h;cases s <;> simp only [] at h <;> simp only [up] at hs
 all_goals first
  |(simp at h;done)
  |exact Nat.le_trans hs (yl8 _ _ _ _ _ _ _ _ _ _ h)
  |exact Nat.le_trans hs (look_up _ _ _ _ _ h)
  |(simp only [Stepped.next.injEq] at h;subst h;exact hs)
  |(repeat' first
    |(simp at h;done)
    |(simp only [Stepped.next.injEq] at h;subst h;exact hs)
    |(simp only [Stepped.next.injEq] at h;subst h;rename_i h2;exact Nat.le_trans hs (Nat.le_of_eq (timerOp_up _ _ _ _ h2).symm))
    |(simp only [Stepped.next.injEq] at h;subst h;rename_i h2;exact Nat.le_trans hs (Nat.le_of_eq (endThrow_go h2).symm))
    |split at h)
def moveD:Move→Nat| .goroutine m _=>m.world.drawn| .machine s _=>nextD s
theorem zx (p:Program) (m m':Machine) (ops:Array MemOp) (h:askOn p m= .machine (.next m') ops):m.world.drawn≤m'.world.drawn:=by
 unfold askOn at h;simp only [] at h
 repeat' first
  |(simp at h;done)
  |(simp only [Move.machine.injEq] at h;exact Nat.le_trans (zd3 (by assumption)) (serve_up _ _ _ _ h.1))
  |(simp only [Move.machine.injEq,Stepped.next.injEq] at h;obtain ⟨rfl,_⟩:=h;exact zd3 (by assumption))
  |(simp only [Move.machine.injEq,Stepped.next.injEq] at h;obtain ⟨rfl,_⟩:=h;exact Nat.le_trans (zd3 (by assumption)) (zd3 (by assumption)))
  |split at h
 all_goals (
  have hd:_=m'.world.drawn:=congrArg moveD h
  dsimp only [moveD,nextD,Machine.advanceTo] at hd
  have e0:=zd3 (show Sem.run p (if _ then _ else _) m.world=_ by assumption)
  try have e1:=zd3 (show Sem.run p (choose (.extern "clock.wait" _)) _=_ by assumption)
  omega)
theorem zq7 (p:Program) (m m':Machine) (i:Nat) (h:askOn p m= .goroutine m' i):m.world.drawn≤m'.world.drawn:=by
 unfold askOn at h;simp only [] at h
 repeat' first
  |(simp at h;done)
  |split at h
 all_goals (
  have hd:_=m'.world.drawn:=congrArg moveD h
  dsimp only [moveD,nextD,Machine.advanceTo] at hd
  have e0:=zd3 (show Sem.run p (if _ then _ else _) m.world=_ by assumption);have e1:=zd3 (show Sem.run p (choose (.sched _)) _=_ by assumption)
  try have e2:=zd3 (show Sem.run p (choose (.extern "clock.wait" _)) _=_ by assumption)
  try have e3:=zd3 (show Sem.run p (choose (.extern "sched.slice" _)) _=_ by assumption)
  try simp only [Machine.advanceTo] at *
  omega)
theorem ask_up (p:Program) (m m':Machine) (ops:Array MemOp) (h:ask p m= .machine (.next m') ops):m.world.drawn≤m'.world.drawn:=by
 unfold ask at h
 repeat' first
  |(simp at h;done)
  |exact zx p m m' ops h
  |exact Nat.le_trans (zd3 (by assumption)) (zx p _ m' ops h)
  |exact Nat.le_trans (zd3 (by assumption)) (Nat.le_trans (look_up _ _ _ _ _ (by assumption)) (zx p _ m' ops h))
  |split at h
 all_goals (
  rename_i hn
  simp only [Move.machine.injEq] at h
  exact (hn _ h.1).elim)
theorem ym0 (p:Program) (m m':Machine) (i:Nat) (h:ask p m= .goroutine m' i):m.world.drawn≤m'.world.drawn:=by
 unfold ask at h
 repeat' first
  |(simp at h;done)
  |exact zq7 p m m' i h
  |exact Nat.le_trans (zd3 (by assumption)) (zq7 p _ m' i h)
  |exact Nat.le_trans (zd3 (by assumption)) (Nat.le_trans (look_up _ _ _ _ _ (by assumption)) (zq7 p _ m' i h))
  |split at h
theorem move_up (p:Program) (m m':Machine) (ops:Array MemOp) (h:move p m= .machine (.next m') ops):m.world.drawn≤m'.world.drawn:=by
 unfold move at h
 repeat' first
  |(simp at h;done)
  |(have h3:=ask_up p _ m' ops h;exact h3)
  |split at h
theorem yl2 (p:Program) (m m':Machine) (i:Nat) (h:move p m= .goroutine m' i):m.world.drawn≤m'.world.drawn:=by
 unfold move at h
 repeat' first
  |(simp at h;done)
  |(have h3:=ym0 p _ m' i h;exact h3)
  |(simp only [Move.goroutine.injEq] at h;obtain ⟨rfl,_⟩:=h;exact Nat.le_refl _)
  |split at h
theorem step_up (p:Program) (m m':Machine) (h:step p m= .next m'):m.world.drawn≤m'.world.drawn:=by
 simp only [step,stepT] at h
 split at h
 ·rename_i m2 i hm
  exact Nat.le_trans (yl2 p m m2 i hm) (runM_up p m2 m' i _ h)
 ·rename_i s ops hm
  simp only [] at h;subst h;exact move_up p m m' ops hm
theorem runN_up (p:Program):∀ (n:Nat) (m m':Machine),runN p n m= .next m'→m.world.drawn≤m'.world.drawn:=by
 intro n
 induction n with
 |zero=>intro m m' h;simp only [runN,Stepped.next.injEq] at h;subst h;exact Nat.le_refl _
 |succ n ih=>
  intro m m' h;simp only [runN] at h
  split at h
  ·rename_i m2 h2
   exact Nat.le_trans (step_up p m m2 h2) (ih _ _ h)
  ·rename_i e h2
   exact (h2 _ h).elim
theorem calls_up {P:Program} {f:FuncId} {args:Array Value} {w:World} {R:Ending→World→Prop} (hR:∀e w',R e w'→∃v,e= .returned v) (h:Calls P f args w R):Calls P f args w fun e w'=>R e w'∧w.drawn≤w'.drawn:=by
 intro cs;obtain ⟨e,w',fr,hr,hc,h1,h2⟩:=h cs;obtain ⟨v,rfl⟩:=hR e w' hr;obtain ⟨n,hn⟩:=hc;exact ⟨_,w',fr,⟨hr,runN_up P n _ _ hn⟩,⟨n,hn⟩,h1,h2⟩
end Drw
end
section
open Go.Shelf
namespace zx9
def ren:Go.Shelf.Ren:=⟨fun |6=>144|15=>126|14=>181|28=>159|29=>160|20=>200|21=>201|22=>202|23=>203|24=>204|25=>205|26=>206|27=>207|46=>214|47=>188|48=>189|49=>215|50=>216|57=>218|n=>n,fun |22=>101|24=>60|25=>221|3=>3|39=>200|0=>0|53=>237|55=>239|4=>4|46=>230|45=>229|50=>234|5=>5|9=>9|66=>266|70=>270|76=>282|77=>283|n=>n,fun n=>n⟩
theorem lay:SlLaysF0.n6 Tryz.prog ren where
 mixed:=by kernel_rfl
 f6:=⟨ "slices.SortFunc[[]loop.example/g00449/impl.Node,loop.example/g00449/impl.Node]",by decide,Tryz.func144.trans (congrArg some (by kernel_rfl))⟩
 f14:=⟨ "slices.pdqsortCmpFunc[loop.example/g00449/impl.Node]",by decide,Tryz.func181.trans (congrArg some (by kernel_rfl))⟩
 f15:=Tryz.func126.trans (congrArg some (by kernel_rfl))
 f20:=⟨ "slices.insertionSortCmpFunc[loop.example/g00449/impl.Node]",by decide,Tryz.func200.trans (congrArg some (by kernel_rfl))⟩
 f21:=⟨ "slices.heapSortCmpFunc[loop.example/g00449/impl.Node]",by decide,Tryz.func201.trans (congrArg some (by kernel_rfl))⟩
 f22:=⟨ "slices.breakPatternsCmpFunc[loop.example/g00449/impl.Node]",by decide,Tryz.func202.trans (congrArg some (by kernel_rfl))⟩
 f23:=⟨ "slices.choosePivotCmpFunc[loop.example/g00449/impl.Node]",by decide,Tryz.func203.trans (congrArg some (by kernel_rfl))⟩
 f24:=⟨ "slices.reverseRangeCmpFunc[loop.example/g00449/impl.Node]",by decide,Tryz.func204.trans (congrArg some (by kernel_rfl))⟩
 f25:=⟨ "slices.partialInsertionSortCmpFunc[loop.example/g00449/impl.Node]",by decide,Tryz.func205.trans (congrArg some (by kernel_rfl))⟩
 f26:=⟨ "slices.partitionEqualCmpFunc[loop.example/g00449/impl.Node]",by decide,Tryz.func206.trans (congrArg some (by kernel_rfl))⟩
 f27:=⟨ "slices.partitionCmpFunc[loop.example/g00449/impl.Node]",by decide,Tryz.func207.trans (congrArg some (by kernel_rfl))⟩
 f28:=Tryz.func159.trans (congrArg some (by kernel_rfl))
 f29:=Tryz.func160.trans (congrArg some (by kernel_rfl))
 f46:=⟨ "slices.siftDownCmpFunc[loop.example/g00449/impl.Node]",by decide,Tryz.func214.trans (congrArg some (by kernel_rfl))⟩
 f47:=Tryz.func188.trans (congrArg some (by kernel_rfl))
 f48:=Tryz.func189.trans (congrArg some (by kernel_rfl))
 f49:=⟨ "slices.medianAdjacentCmpFunc[loop.example/g00449/impl.Node]",by decide,Tryz.func215.trans (congrArg some (by kernel_rfl))⟩
 f50:=⟨ "slices.medianCmpFunc[loop.example/g00449/impl.Node]",by decide,Tryz.func216.trans (congrArg some (by kernel_rfl))⟩
 f57:=⟨ "slices.order2CmpFunc[loop.example/g00449/impl.Node]",by decide,Tryz.func218.trans (congrArg some (by kernel_rfl))⟩
 t0:=Tryz.underlying0
 a0:=Tryz.isAgg0
 z0:=Tryz.sizeOf0
 v0:=Tryz.zeroValue0
 t3:=Tryz.underlying3
 a3:=Tryz.isAgg3
 z3:=Tryz.sizeOf3
 v3:=Tryz.zeroValue3
 t4:=Tryz.underlying4
 a4:=Tryz.isAgg4
 z4:=Tryz.sizeOf4
 v4:=Tryz.zeroValue4
 t5:=Tryz.underlying5
 a5:=Tryz.isAgg5
 z5:=Tryz.sizeOf5
 v5:=Tryz.zeroValue5
 t9:=Tryz.underlying9
 a9:=Tryz.isAgg9
 z9:=Tryz.sizeOf9
 v9:=Tryz.zeroValue9
 t22:=Tryz.underlying101
 a22:=Tryz.isAgg101
 z22:=Tryz.sizeOf101
 v22:=Tryz.zeroValue101
 t25:=Tryz.underlying221
 a25:=Tryz.isAgg221
 z25:=Tryz.sizeOf221
 v25:=Tryz.zeroValue221
 t39:=Tryz.underlying200
 a39:=Tryz.isAgg200
 z39:=Tryz.sizeOf200
 v39:=Tryz.zeroValue200
 t45:=Tryz.underlying229
 a45:=Tryz.isAgg229
 z45:=Tryz.sizeOf229
 v45:=Tryz.zeroValue229
 t46:=Tryz.underlying230
 a46:=Tryz.isAgg230
 z46:=Tryz.sizeOf230
 v46:=Tryz.zeroValue230
 t50:=Tryz.underlying234
 a50:=Tryz.isAgg234
 z50:=Tryz.sizeOf234
 v50:=Tryz.zeroValue234
 t53:=Tryz.underlying237
 a53:=Tryz.isAgg237
 z53:=Tryz.sizeOf237
 v53:=Tryz.zeroValue237
 t55:=Tryz.underlying239
 a55:=Tryz.isAgg239
 z55:=Tryz.sizeOf239
 v55:=Tryz.zeroValue239
 t66:=Tryz.underlying266
 a66:=Tryz.isAgg266
 z66:=Tryz.sizeOf266
 v66:=Tryz.zeroValue266
 t70:=Tryz.underlying270
 a70:=Tryz.isAgg270
 z70:=Tryz.sizeOf270
 v70:=Tryz.zeroValue270
 t76:=Tryz.underlying282
 a76:=Tryz.isAgg282
 z76:=Tryz.sizeOf282
 v76:=Tryz.zeroValue282
 t77:=Tryz.underlying283
 a77:=Tryz.isAgg283
 z77:=Tryz.sizeOf283
 v77:=Tryz.zeroValue283
theorem agg:∀w,(isAgg (ren.t 24)).run Tryz.prog w= .ok true w:=Tryz.isAgg60
theorem size:∀w,(Go.sizeOf (ren.t 24)).run Tryz.prog w= .ok 5 w:=Tryz.sizeOf60
end zx9
end
section
open Go.RowKit Go.Sort
namespace WOrder
theorem grow_of {w w':World} (h:Go.RowKit.Below w.heap.size w w') (hd:w.drawn≤w'.drawn):∃q os',w'=grow (w.drewN q) os':=by
 obtain ⟨⟨d,os⟩,e⟩:=regrown_of_below h;have e2:w'.drawn=d:=by rw [e];rfl
 refine ⟨d - w.drawn,os,?_⟩;rw [e];show grow (redrawn w d) os=grow (w.drewN (d - w.drawn)) os;unfold redrawn World.drewN;rw [show w.drawn+(d - w.drawn)=d by omega]
abbrev Rn:={n:Pl.Nd // Pl.za0 n.path=true}
def cf (x y:Rn):Int:=if Pl.ltP x.1.path y.1.path then -1 else if Pl.ltP y.1.path x.1.path then 1 else 0
theorem lt_cf (x y:Rn):ltOf cf x y=Pl.ltP x.1.path y.1.path:=by
 unfold ltOf cf;cases Pl.ltP x.1.path y.1.path
 ·cases Pl.ltP y.1.path x.1.path <;> rfl
 ·rfl
theorem lt_anti {x y:Rn} (h:x.1.path≠y.1.path):Pl.ltP x.1.path y.1.path= !Pl.ltP y.1.path x.1.path:=Pl.two_less x.2 y.2 h
theorem lt_irr (x:Rn):Pl.ltP x.1.path x.1.path=false:=by rw [Pl.zf8 x.2 x.2];exact Pl.zk8 _
theorem lt_tr {x y z:Rn} (h1:Pl.ltP x.1.path y.1.path=true) (h2:Pl.ltP y.1.path z.1.path=true):Pl.ltP x.1.path z.1.path=true:=by
 rw [Pl.zf8 x.2 y.2] at h1;rw [Pl.zf8 y.2 z.2] at h2;rw [Pl.zf8 x.2 z.2];exact Pl.zj2 _ _ _ h1 h2
theorem swo:SWO (ltOf cf) where
 irrefl x:=by rw [lt_cf];exact lt_irr x
 trans x y z h1 h2:=by rw [lt_cf] at *;exact lt_tr h1 h2
 ntrans x y z h1 h2:=by
  rw [lt_cf] at *;cases h:Pl.ltP x.1.path z.1.path
  ·rfl
  ·exfalso;by_cases e:x.1.path=y.1.path
   ·rw [←e,h] at h2;cases h2
   ·have a:=lt_anti e;rw [h1] at a
    have b:Pl.ltP y.1.path x.1.path=true:=by
     cases hb:Pl.ltP y.1.path x.1.path
     ·rw [hb] at a;cases a
     ·rfl
    rw [lt_tr b h] at h2;cases h2
def cfP (p q:ByteArray):Int:=if Pl.ltP p q then -1 else if Pl.ltP q p then 1 else 0
set_option maxRecDepth 100000 in
theorem order_path (p q:ByteArray) (hp:Pl.za0 p=true) (hq:Pl.za0 q=true) (w:World):
  Calls Tryz.prog 93 #[.string p, .string q] w fun e w'=>e= .returned (.int .i64 (cfP p q))∧Go.RowKit.Below w.heap.size w w':=by
 have h1:=hide (fun W=>WLess.ye1 p q W (by have :=Pl.zg5 hp;omega) (by have :=Pl.zg5 hq;omega));have h2:=hide (fun W=>WLess.ye1 q p W (by have :=Pl.zg5 hq;omega) (by have :=Pl.zg5 hp;omega))
 change Hid (∀W,Calls Tryz.prog _ _ W fun e w'=>e= .returned (.bool (Pl.ltP p q))∧_) at h1
 change Hid (∀W,Calls Tryz.prog _ _ W fun e w'=>e= .returned (.bool (Pl.ltP q p))∧_) at h2
 unfold cfP;generalize Pl.ltP p q=r1 at h1 ⊢;generalize Pl.ltP q p=r2 at h2 ⊢;clear hp hq;cases r1
 ·go_enter Tryz.func93,Tryz.ntmps93
  go_wp2_with fail
  refine (za h1 _).mono ?_;rintro e w1 ⟨rfl,b1⟩;clear h1;go_wp2_with fail
  refine (za h2 _).mono ?_;rintro e w3 ⟨rfl,b3⟩;have b4:=b1.trans (b3.mono b1.size);clear b1 b3 h2;cases r2
  ·go_wp2
   go_ret
   exact ⟨rfl,b4⟩
  ·go_wp2
   go_ret
   exact ⟨rfl,b4⟩
 ·clear h2;go_enter Tryz.func93,Tryz.ntmps93
  go_wp2_with fail
  refine (za h1 _).mono ?_;rintro e w1 ⟨rfl,b1⟩;clear h1;go_wp2
  go_ret
  exact ⟨rfl,b1⟩
set_option maxRecDepth 100000 in
theorem order_any (x y:Rn) (w:World):
  Calls Tryz.prog 145 #[.agg x.1.cs.toArray, .agg y.1.cs.toArray] w fun e w'=>e= .returned (.int .i64 (cf x y))∧Go.RowKit.Below w.heap.size w w':=by
 have h1:=hide (fun W=>order_path x.1.path y.1.path x.2 y.2 W);have e1:cf x y=cfP x.1.path y.1.path:=rfl;rw [e1];generalize cfP x.1.path y.1.path=r at h1 ⊢;obtain ⟨⟨p,k,d,t,m⟩,hx⟩:=x;obtain ⟨⟨p',k',d',t',m'⟩,hy⟩:=y;simp only [Pl.Nd.cs] at h1 ⊢;have b0:Go.RowKit.Below w.heap.size w ((w.alloc (.cells #[.string p, .int .i64 k, .string d, .int .i64 t, .int .i64 m] 60)).alloc (.cells #[.string p', .int .i64 k', .string d', .int .i64 t', .int .i64 m'] 60)):=((Below.refl _ _).alloc (Nat.le_refl _) _).alloc (by simp) _;clear hx hy e1;go_enter Tryz.func145,Tryz.ntmps145
 go_wp2_with fail
 refine (za h1 _).mono ?_;rintro e w1 ⟨rfl,b1⟩;have b2:=b0.trans (b1.mono b0.size);clear b0 b1 h1;go_wp2
 go_ret
 exact ⟨rfl,b2⟩
theorem cmp_lays (blk off size:Nat) (w:World) [Inhabited Rn]:CmpLays Tryz.prog 145 #[] (fun x:Rn=>x.1.cs) 5 cf blk off size w:=fun m os dk _ x y=>by
 have h:=Drw.calls_up (fun e w' (h:e= .returned (.int .i64 (cf x y))∧_)=>⟨_,h.1⟩) (order_any x y (sortWorldK (fun x:Rn=>x.1.cs) 5 w blk off m dk os));exact h.mono fun e w' ⟨⟨he,hb⟩,hd⟩=>⟨he,grow_of hb hd⟩
theorem heap_sorted {α:Type} [Inhabited α] (enc:α→List Value) (w:World) (g n:Nat) (d:Array α) (os:Array Obj) (cur:Array Value) (T:TypeId) (hg:w.heap[g]? =some (.cells cur T (0,0))):
  (sortWorldK enc 5 w g 0 n d os).heap[g]? =some (.cells (putCells id 0 (flatK enc 5 d) cur) T (0,0)):=by
 have hlt:g<w.heap.size:=(Array.getElem?_eq_some_iff.1 hg).1;unfold sortWorldK grow putRowK putRow mapBlock;simp only [Array.getElem?_append,Array.size_modify];rw [if_pos (show g<(Sort.ahead w n).heap.size from hlt),Array.getElem?_modify,if_pos rfl];show Option.map _ (w.heap[g]?)=_;rw [hg];rfl
theorem grown_sorted {α:Type} [Inhabited α] (enc:α→List Value) (w:World) (g n:Nat) (d:Array α) (os:Array Obj):w.grownBy (sortWorldK enc 5 w g 0 n d os) (some g):=by
 refine ⟨rfl,rfl,rfl,?_,fun j hj hne=>?_⟩
 ·unfold sortWorldK grow putRowK putRow mapBlock;simp only [Array.size_append,Array.size_modify];exact Nat.le_add_right _ _
 ·have h:j≠g:=fun e=>hne (by rw [e]);unfold sortWorldK grow putRowK putRow mapBlock;simp only [Array.getElem?_append,Array.size_modify];rw [if_pos (show j<(Sort.ahead w n).heap.size from hj),Array.getElem?_modify,if_neg (fun e=>h e.symm)];rfl
theorem flat_get (d:Array Rn) [Inhabited Rn] (t:Nat) (h:t<d.size*5):(flatK (fun x:Rn=>x.1.cs) 5 d)[t]! =(Pl.zd6 (d.toList.map (·.1)))[t]! :=by
 rw [get_flatK _ _ _ _ h];have hd:t / 5<d.size:=by omega
 have e:(d.toList.map (·.1))[t / 5]? =some (d[t / 5]!).1:=by
  rw [List.getElem?_map,Array.getElem?_toList,Array.getElem?_eq_getElem hd,getElem!_pos d _ hd];rfl
 have h2:=Pl.zs9 _ _ _ e (t % 5) (by omega);rw [show t / 5*5+t % 5=t by omega] at h2;rw [List.getElem!_eq_getElem?_getD,List.getElem!_eq_getElem?_getD,h2]
theorem sort_any (g cap B:Nat) (T:List Pl.Nd) (w:World) (hp:∀t∈T,Pl.za0 t.path=true) (hl:T.length≤1048576) (hown:Mem.ownN w B (.slice (some ⟨g,0,none⟩) T.length cap) T):
  Calls Tryz.prog 144 #[.slice (some ⟨g,0,none⟩) T.length cap, .func (.func 145) #[] #[]] w fun e w'=>e= .returned (.tuple #[])∧
   ∃S:List Pl.Nd,S.Perm T∧S.Pairwise (fun a b=>Pl.ltP b.path a.path=false)∧Mem.ownN w' B (.slice (some ⟨g,0,none⟩) T.length cap) S∧w.grownBy w' (some g):=by
 by_cases h0:T=[]
 ·subst h0;refine Calls.mono (AnyF.slices_SortFunc_none (P:=Tryz.prog) zx9.lay (some ⟨g,0,none⟩) cap (.func (.func 145) #[] #[]) w) ?_;rintro e w' ⟨he,rfl⟩;exact ⟨he,[],List.Perm.refl _,List.Pairwise.nil,hown,⟨rfl,rfl,rfl,Nat.le_refl _,fun _ _ _=>rfl⟩⟩
 obtain ⟨t0,ht0⟩:=List.exists_mem_of_ne_nil T h0
 letI:Inhabited Rn:=⟨⟨t0,hp t0 ht0⟩⟩
 rcases hown.2 with ⟨e, -⟩|⟨g',cap',cur,e,hb,hg,hc,hm,hsz,ht⟩
 ·cases e
 injection e with e1 e2 e3
 cases e1
 subst e3
 let d:Array Rn:=(T.attach.map (fun t=>(⟨t.1,hp t.1 t.2⟩:Rn))).toArray
 have hd:d.toList.map (·.1)=T:=by simp [d]
 have hds:d.size=T.length:=by simp [d]
 have hcur:T.length*5≤cur.size:=by rw [hsz];exact Nat.mul_le_mul_right _ hc
 have hH:HoldsK (fun x:Rn=>x.1.cs) 5 w g 0 d:=by
  intro j hj;rw [size_flatK,hds] at hj;refine ⟨?_,Mem.zb8 hg⟩;rw [cell_of_row w g _ cur _ (0,0) hg,Nat.zero_add,flat_get d j (by omega),hd,id_eq];have h1:(Pl.zd6 T)[j]? =cur[j]?:=by rw [←ht,List.getElem?_take_of_lt (by omega),Array.getElem?_toList]
  rw [←h1,List.getElem!_eq_getElem?_getD,List.getElem?_eq_getElem (by rw [Pl.zp3];omega)];rfl
 have hcon:=AnyQ.slices_SortFunc (P:=Tryz.prog) zx9.lay 5 zx9.agg zx9.size (fun x:Rn=>x.1.cs) (fun _=>rfl) (fun x=>Mem.cs_one x.1) cf swo 145 #[] g 0 cap d w (enters_of Tryz.func145 (by kernel_rfl) rfl) (cmp_lays g 0 d.size w) hH (Array.getElem?_eq_some_iff.1 hg).1 (by omega);rw [hds] at hcon;refine Calls.mono hcon ?_;rintro e w' ⟨he,d',n,os,hperm,hsort,rfl⟩;have hs':d'.size=T.length:=hperm.1.trans hds;refine ⟨he,d'.toList.map (·.1),?_,?_,?_,grown_sorted _ w g n d' os⟩
 ·have h:=hperm.2.2;rw [←hds] at h;have e1:(d'.extract 0 d.size).toList=d'.toList:=by simp [hperm.1.symm]
  have e2:(d.extract 0 d.size).toList=d.toList:=by simp
  rw [e1,e2] at h;have :=h.map (·.1)
  rwa [hd] at this
 ·rw [List.pairwise_map,List.pairwise_iff_getElem];intro i j hi hj hij;have h:=hsort i j (Nat.zero_le _) hij (by simp at hj;omega);rw [lt_cf,getElem!_pos d' i (by simpa using hi),getElem!_pos d' j (by simpa using hj)] at h
  simpa using h
 ·have hlen:(d'.toList.map (·.1)).length=T.length:=by simp [hs']
  refine ⟨?_, .inr ⟨g,cap,_,?_,hb,heap_sorted _ w g n d' os cur _ hg,?_,hm,?_,?_⟩⟩
  ·rw [Pl.zp3]
  ·rw [hlen]
  ·rw [hlen];exact hc
  ·simp only [putCells,Array.size_mapIdx];exact hsz
  ·rw [hlen]
   apply List.ext_getElem?
   intro j;by_cases hj:j<T.length*5
   ·rw [List.getElem?_take_of_lt hj,Array.getElem?_toList];have h1:(flatK (fun x:Rn=>x.1.cs) 5 d')[j]! =(Pl.zd6 (d'.toList.map (·.1)))[j]! :=flat_get d' j (by omega);rw [putCells,Array.getElem?_mapIdx,Array.getElem?_eq_getElem (by omega)];simp only [Option.map_some,size_flatK,Nat.zero_le,true_and,Nat.zero_add,Nat.sub_zero,id_eq];rw [if_pos (by omega),h1,List.getElem!_eq_getElem?_getD,List.getElem?_eq_getElem (by rw [Pl.zp3,hlen];omega)];rfl
   ·rw [List.getElem?_eq_none (by rw [List.length_take];omega),List.getElem?_eq_none (by rw [Pl.zp3,hlen];omega)]
end WOrder
end
end Go.Proofs.YtkighhofjmginaaGreatDoor
